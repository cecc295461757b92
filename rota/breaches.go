package rota

import (
	"iter"
	"slices"

	"aircheck/api"
)

// fields returns, for each field of a rule, what two songs that agree in it have in common.
func fields() map[int]func(api.Item) int {
	return map[int]func(api.Item) int{
		api.RItem:     func(i api.Item) int { return i.ID },
		api.RArtist:   func(i api.Item) int { return i.Artist },
		api.RTempo:    func(i api.Item) int { return i.Tempo },
		api.RLanguage: func(i api.Item) int { return i.Language },
	}
}

// chooser is what a song is chosen with: a valid rota, its songs by their IDs, and a history for it.
type chooser struct {
	rota    api.Rota
	songs   map[int]api.Item
	history []api.Aired
}

// chooserOf returns the chooser for r and history, and whether r is valid and history is one for it.
func chooserOf(r api.Rota, history []api.Aired) (chooser, bool) {
	if !Valid(r) || len(history) > api.MaxHistory {
		return chooser{}, false
	}
	c := chooser{r, songsOf(r), nil}
	for index, x := range history {
		if !c.isFollowedBy(x) {
			return chooser{}, false
		}
		c.history = history[:index+1]
	}
	return c, true
}

// songsOf returns the songs of r by their IDs.
func songsOf(r api.Rota) map[int]api.Item {
	out := map[int]api.Item{}
	for _, i := range r.Items {
		out[i.ID] = i
	}
	return out
}

// isFollowedBy reports whether x follows the history.
func (c chooser) isFollowedBy(x api.Aired) bool {
	_, ok := c.songs[x.Item]
	return ok && c.canBegin(x.At)
}

// canBegin reports whether a song that begins at at follows the history.
func (c chooser) canBegin(at int) bool {
	if n := len(c.history); n > 0 && at <= c.history[n-1].At {
		return false
	}
	return 0 <= at && at < api.MaxTime
}

// isRanking reports whether ranked is a ranking for the rota.
func (c chooser) isRanking(ranked []int) bool {
	if len(ranked) > api.MaxRanked {
		return false
	}
	for index, id := range ranked {
		if _, ok := c.songs[id]; !ok || slices.Contains(ranked[:index], id) {
			return false
		}
	}
	return true
}

// allows reports whether x, which follows the history, has no breach.
func (c chooser) allows(x api.Aired) bool {
	_, broken := first(c.breaches(x))
	return !broken
}

// breaches yields the breaches of x, which follows the history, in their order.
func (c chooser) breaches(x api.Aired) iter.Seq[api.Breach] {
	return func(yield func(api.Breach) bool) {
		known := fields()
		for index, rule := range c.rota.Rules {
			field := known[rule.Field]
			own := field(c.songs[x.Item])
			for with, before := range c.history {
				agree := field(c.songs[before.Item]) == own
				if agree && x.At-before.At < rule.Gap && !yield(api.Breach{Rule: index, With: with}) {
					return
				}
			}
		}
		for index, quota := range c.rota.Quotas {
			if c.misses(quota, x) && !yield(api.Breach{Rule: len(c.rota.Rules) + index, With: noSong}) {
				return
			}
		}
	}
}

// misses reports whether x, which follows the history, ends a run of songs of which too few have the language of the quota.
func (c chooser) misses(quota api.Quota, x api.Aired) bool {
	passed := len(c.history) - (quota.Of - 1)
	if passed < 0 {
		return false
	}
	n := 0
	for _, song := range append(slices.Clone(c.history[passed:]), x) {
		if c.songs[song.Item].Language == quota.Language {
			n++
		}
	}
	return n < quota.Least
}

// first returns the first breach of l, and whether there is one.
func first(l iter.Seq[api.Breach]) (api.Breach, bool) {
	for b := range l {
		return b, true
	}
	return api.Breach{}, false
}

// contains reports whether b is one of l.
func contains(l iter.Seq[api.Breach], b api.Breach) bool {
	for other := range l {
		if other == b {
			return true
		}
	}
	return false
}
