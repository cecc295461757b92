package rota

import (
	"aircheck/api"
	"aircheck/item"
)

// areSongs reports whether l are valid songs with ascending IDs.
func areSongs(l []api.Item) bool {
	for index, i := range l {
		if !item.Valid(i) || i.Kind != api.KSong || index > 0 && i.ID <= l[index-1].ID {
			return false
		}
	}
	return true
}

// areRules reports whether the numbers of each rule are within bounds.
func areRules(l []api.Rule) bool {
	known := fields()
	for _, rule := range l {
		if known[rule.Field] == nil || rule.Gap < 1 || rule.Gap > api.WeekSeconds {
			return false
		}
	}
	return true
}

// areQuotas reports whether the numbers of each quota are within bounds.
func areQuotas(l []api.Quota) bool {
	for _, quota := range l {
		if quota.Language < 1 || quota.Language > api.MaxLanguage ||
			quota.Of < 1 || quota.Of > api.MaxHistory ||
			quota.Least < 0 || quota.Least > quota.Of {
			return false
		}
	}
	return true
}

// areSpans reports whether there are at most MaxSpans spans of the network's time, none of which begins before the one before it ends.
func areSpans(l []api.Span) bool {
	if len(l) > api.MaxSpans {
		return false
	}
	end := 0
	for _, s := range l {
		if s.From < end || s.To <= s.From || s.To > api.MaxTime {
			return false
		}
		end = s.To
	}
	return true
}

// continues reports whether s is only another part of what was heard in the span before it.
func continues(s, before api.Span) bool {
	return s.Owner == before.Owner && s.From == before.To
}
