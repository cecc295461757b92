package clock

import (
	"cmp"
	"slices"

	"aircheck/api"
)

// change is that at a second, a spell begins (by is 1) or is over (by is -1).
type change struct {
	at, by int
}

// level is that from a second on, up to the next level, each second is in count spells.
type level struct {
	from, count int
}

// levels returns the levels of l in order; each has another count than the one before it, and the last one has the count 0.
func levels(l []api.Spell) []level {
	var out []level
	now := level{}
	all := changes(l)
	for i, c := range all {
		now = level{from: c.at, count: now.count + c.by}
		if i+1 < len(all) && all[i+1].at == c.at {
			continue
		}
		// Where one spell begins as another one ends, nothing changes.
		if len(out) == 0 || out[len(out)-1].count != now.count {
			out = append(out, now)
		}
	}
	return out
}

// changes returns when the spells of l that have seconds begin and are over, in order.
func changes(l []api.Spell) []change {
	var out []change
	for _, s := range l {
		if s.From < s.To {
			out = append(out, change{s.From, 1}, change{s.To, -1})
		}
	}
	slices.SortFunc(out, func(a, b change) int { return cmp.Compare(a.at, b.at) })
	return out
}
