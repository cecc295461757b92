package format

import (
	"iter"

	"aircheck/api"
)

// hoursOfDay is the number of the hours of a day.
const hoursOfDay = 24

// kind is what the parts of one kind do.
type kind struct {
	// holds is whether other parts have to be inside.
	holds bool
	// isValid reports whether the fields of a part, but for Kind and Size, are within bounds.
	isValid func(p api.Part) bool
	// write returns the words of a part before those of its inside.
	write func(p api.Part) []string
	// read reads the words that write returns, but for the first one, into p.
	read func(r *reader, p *api.Part)
	// meet says what happens when a visit comes to a part.
	meet func(v visit, p api.Part, inside []api.Part)
}

// kindOf returns what the part p does, and whether it is of a kind.
func kindOf(p api.Part) (kind, bool) {
	kinds := [...]kind{
		api.PartSlot:   {isValid: isSlotPart, write: writeSlot, read: readSlot, meet: meetSlot},
		api.PartJoin:   {isValid: isJoinPart, write: writeJoin, read: readJoin, meet: meetJoin},
		api.PartRepeat: {isValid: isRepeatPart, write: writeRepeat, read: readRepeat, meet: meetRepeat, holds: true},
		api.PartWhere:  {isValid: isWherePart, write: writeWhere, read: readWhere, meet: meetWhere, holds: true},
	}
	if p.Kind < api.PartSlot || p.Kind >= len(kinds) {
		return kind{}, false
	}
	return kinds[p.Kind], true
}

// outermost yields the parts of l that are not inside of another one, in order, each with its inside. Where l ends too early, the inside has fewer parts than Size says.
func outermost(l []api.Part) iter.Seq2[api.Part, []api.Part] {
	return func(yield func(api.Part, []api.Part) bool) {
		for next := 0; next < len(l); {
			p, rest := l[next], l[next+1:]
			inside := rest[:min(max(p.Size, 0), len(rest))]
			if !yield(p, inside) {
				return
			}
			next += 1 + len(inside)
		}
	}
}

// areValid reports whether l, which has so many parts around it, is the whole of some valid parts.
func areValid(l []api.Part, around int) bool {
	for p, inside := range outermost(l) {
		k, ok := kindOf(p)
		if !ok || !k.isValid(p) || k.holds != (p.Size != 0) || p.Size != len(inside) {
			return false
		}
		if around > api.MaxNest || !areValid(inside, around+1) {
			return false
		}
	}
	return true
}

func isSlotPart(p api.Part) bool {
	return isItemKind(p.A) && areLengths(p.B, p.C)
}

func isJoinPart(p api.Part) bool {
	return isSecond(p.A) && p.B == 0 && p.C == 0
}

func isRepeatPart(p api.Part) bool {
	return minTimes <= p.A && p.A <= api.MaxTimes && p.B == 0 && p.C == 0
}

func isWherePart(p api.Part) bool {
	return 1 <= p.A && p.A <= api.AllRegions && 1 <= p.B && p.B <= api.AllHours && p.C == 0
}

// minTimes is the least number of times of a repetition.
const minTimes = 2

func isItemKind(n int) bool {
	return api.KSong <= n && n <= api.KNews
}

func areLengths(least, most int) bool {
	return 1 <= least && least <= most && most <= api.HourSeconds
}

// isSecond reports whether an hour has a second with this number.
func isSecond(n int) bool {
	return 0 <= n && n < api.HourSeconds
}
