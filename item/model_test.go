package item_test

import (
	"math"
	"math/rand"
	"slices"
	"testing"

	"aircheck/api"
	"aircheck/item"
)

// This file has what the tests share: the chapter's words as slow functions that look at one second after the other, and items to try.

// definedAsValid reports whether i is valid in the words of the chapter.
func definedAsValid(i api.Item) bool {
	if i.ID < 0 || i.ID > 199 || i.Kind < 1 || i.Kind > 5 || i.Length < 1 || i.Length > 3600 {
		return false
	}
	if !definedAsParts(i.Trims, i.Length) || !definedAsParts(i.Talks, i.Length) {
		return false
	}
	trimmed := 0
	for _, s := range i.Trims {
		trimmed += s.To - s.From
	}
	if trimmed >= i.Length {
		return false
	}
	if i.Kind == 1 {
		return 0 <= i.Artist && i.Artist <= 99 && 1 <= i.Tempo && i.Tempo <= 5 && 1 <= i.Language && i.Language <= 4
	}
	return i.Artist == 0 && i.Tempo == 0 && i.Language == 0
}

// definedAsParts reports whether l may be the trims or the talks of a recording of this length.
func definedAsParts(l []api.Spell, length int) bool {
	if len(l) > 4 {
		return false
	}
	for k, s := range l {
		if s.From < 0 || s.To <= s.From || length < s.To || k > 0 && s.From < l[k-1].To {
			return false
		}
	}
	return true
}

// definedAsCut reports whether cut is a cut of the valid item i.
func definedAsCut(i api.Item, cut []int) bool {
	for k, index := range cut {
		if index < 0 || index >= len(i.Trims) || k > 0 && index <= cut[k-1] {
			return false
		}
	}
	return true
}

// definedCuts returns all cuts of i.
func definedCuts(i api.Item) [][]int {
	out := [][]int{nil}
	for index := range i.Trims {
		for _, cut := range out {
			out = append(out, append(slices.Clone(cut), index))
		}
	}
	return out
}

// isIn reports whether one of the spells has the second.
func isIn(l []api.Spell, second int) bool {
	return slices.ContainsFunc(l, func(s api.Spell) bool { return s.From <= second && second < s.To })
}

// trims returns the trims of the cut.
func trims(i api.Item, cut []int) []api.Spell {
	var out []api.Spell
	for _, index := range cut {
		out = append(out, i.Trims[index])
	}
	return out
}

// definedPlaces returns the seconds of the recording that are heard in the shortened item, in order.
func definedPlaces(i api.Item, cut []int) []int {
	var out []int
	for second := range i.Length {
		if !isIn(trims(i, cut), second) {
			out = append(out, second)
		}
	}
	return out
}

// definedTalk returns the longest spells of the seconds of the shortened item, with these places, that are in a talk.
func definedTalk(i api.Item, places []int) []api.Spell {
	var out []api.Spell
	for at, second := range places {
		if !isIn(i.Talks, second) {
			continue
		}
		if at > 0 && isIn(i.Talks, places[at-1]) {
			out[len(out)-1].To = at + 1
		} else {
			out = append(out, api.Spell{From: at, To: at + 1})
		}
	}
	return out
}

// definedLengths returns the length of the shortened item for each of the cuts.
func definedLengths(i api.Item, cuts [][]int) []int {
	var out []int
	for _, cut := range cuts {
		length := i.Length
		for _, s := range trims(i, cut) {
			length -= s.To - s.From
		}
		out = append(out, length)
	}
	return out
}

// song returns the song of the chapter's examples.
func song() api.Item {
	return api.Item{
		ID: 3, Kind: api.KSong, Length: 200, Artist: 7, Tempo: 3, Language: 2,
		Trims: []api.Spell{{From: 10, To: 30}, {From: 150, To: 180}},
		Talks: []api.Spell{{From: 0, To: 15}, {From: 170, To: 200}},
	}
}

// items returns valid items with parts in many places.
func items() []api.Item {
	return []api.Item{
		song(),
		{Kind: api.KSpot, Length: 1},
		{ID: 199, Kind: api.KNews, Length: 3600, Talks: []api.Spell{{From: 0, To: 3600}}},
		{ID: 1, Kind: api.KSong, Length: 1, Tempo: 1, Language: 1, Talks: []api.Spell{{From: 0, To: 1}}},
		{ID: 198, Kind: api.KSong, Length: 3599, Artist: 99, Tempo: 5, Language: 4, Trims: []api.Spell{{From: 1, To: 3599}}},
		// trims at both ends, and a talk that lies in one of them
		{ID: 2, Kind: api.KTalk, Length: 10, Trims: []api.Spell{{From: 0, To: 4}, {From: 6, To: 10}}, Talks: []api.Spell{{From: 1, To: 3}, {From: 5, To: 7}}},
		// trims that meet, so that what is heard jumps over both
		{ID: 4, Kind: api.KJingle, Length: 20, Trims: []api.Spell{{From: 2, To: 4}, {From: 4, To: 5}, {From: 5, To: 9}, {From: 15, To: 18}}, Talks: []api.Spell{{From: 0, To: 2}, {From: 3, To: 9}, {From: 9, To: 10}, {From: 14, To: 19}}},
		// several cuts with the same length
		{ID: 5, Kind: api.KTalk, Length: 60, Trims: []api.Spell{{From: 0, To: 10}, {From: 10, To: 20}, {From: 30, To: 50}}},
		{ID: 6, Kind: api.KTalk, Length: 100, Trims: []api.Spell{{From: 0, To: 10}, {From: 20, To: 40}, {From: 50, To: 60}, {From: 70, To: 90}}},
		{ID: 7, Kind: api.KSpot, Length: 50, Trims: []api.Spell{{From: 1, To: 3}, {From: 4, To: 6}, {From: 10, To: 12}, {From: 12, To: 14}}},
		{ID: 8, Kind: api.KNews, Length: 80, Trims: []api.Spell{{From: 0, To: 4}, {From: 5, To: 6}, {From: 10, To: 12}, {From: 20, To: 23}}},
		// talks that meet, within a trim, around it, and across both of its ends
		{ID: 9, Kind: api.KTalk, Length: 40, Trims: []api.Spell{{From: 10, To: 30}}, Talks: []api.Spell{{From: 5, To: 11}, {From: 11, To: 12}, {From: 20, To: 25}, {From: 29, To: 31}}},
		{ID: 10, Kind: api.KTalk, Length: 40, Trims: []api.Spell{{From: 10, To: 30}}, Talks: []api.Spell{{From: 10, To: 30}}},
		{ID: 11, Kind: api.KTalk, Length: 40, Trims: []api.Spell{{From: 10, To: 12}, {From: 13, To: 15}}, Talks: []api.Spell{{From: 9, To: 16}}},
		{ID: 12, Kind: api.KNews, Length: 30, Trims: []api.Spell{{From: 10, To: 20}}, Talks: []api.Spell{{From: 5, To: 10}, {From: 20, To: 25}}},
	}
}

// anyParts returns at most four spells that may be the trims or the talks of a recording of this length. Some of them meet, and some are at its ends.
func anyParts(r *rand.Rand, length int) []api.Spell {
	ends := []int{}
	for range 2 * r.Intn(5) {
		ends = append(ends, r.Intn(length+1))
	}
	slices.Sort(ends)
	var out []api.Spell
	for k := 0; k < len(ends); k += 2 {
		s := api.Spell{From: ends[k], To: ends[k+1]}
		if k > 0 && r.Intn(3) == 0 {
			s.From = ends[k-1]
		}
		if s.From < s.To {
			out = append(out, s)
		}
	}
	return out
}

// anyItem returns a valid item that is no longer than length.
func anyItem(r *rand.Rand, length int) api.Item {
	for {
		i := api.Item{ID: r.Intn(200), Kind: 1 + r.Intn(5), Length: 1 + r.Intn(length)}
		if i.Kind == api.KSong {
			i.Artist, i.Tempo, i.Language = r.Intn(100), 1+r.Intn(5), 1+r.Intn(4)
		}
		i.Trims, i.Talks = anyParts(r, i.Length), anyParts(r, i.Length)
		// Only trims that leave nothing can make it invalid.
		if definedAsValid(i) {
			return i
		}
	}
}

// allParts returns all lists of at most four spells that may be the trims or the talks of a recording of this length.
func allParts(length int) [][]api.Spell {
	out := [][]api.Spell{nil}
	for k := 0; k < len(out); k++ {
		l := out[k]
		first := 0
		if len(l) > 0 {
			first = l[len(l)-1].To
		}
		for from := first; from < length && len(l) < 4; from++ {
			for to := from + 1; to <= length; to++ {
				out = append(out, append(slices.Clone(l), api.Spell{From: from, To: to}))
			}
		}
	}
	return out
}

// smallItems yields all valid items of at most this length that have the ID 0 and are jingles.
func smallItems(length int, yield func(api.Item)) {
	for n := 1; n <= length; n++ {
		all := allParts(n)
		for _, trims := range all {
			for _, talks := range all {
				i := api.Item{Kind: api.KJingle, Length: n, Trims: trims, Talks: talks}
				if definedAsValid(i) {
					yield(i)
				}
			}
		}
	}
}

// extremes are numbers around every bound of an item's fields, and far from them.
var extremes = []int{math.MinInt, math.MinInt + 1, -1 << 62, -1 << 32, -3601, -3600, -100, -2, -1, 0, 1, 2, 3, 4, 5, 6, 9, 10, 11, 29, 30, 31, 98, 99, 100, 149, 150, 151, 179, 180, 181, 198, 199, 200, 201, 3599, 3600, 3601, 1 << 31, 1 << 32, 1<<62 - 1, 1 << 62, math.MaxInt - 1, math.MaxInt}

// refusesItem fails unless all functions refuse i.
func refusesItem(t testing.TB, i api.Item) {
	t.Helper()
	if item.Valid(i) {
		t.Errorf("%v is valid", i)
	}
	if l, e := item.Lengths(i); len(l) != 0 || e != api.ErrItem {
		t.Errorf("Lengths(%v) = %v, %d", i, l, e)
	}
	for _, length := range []int{i.Length, 0, 1, 170} {
		if cut, e := item.Cut(i, length); len(cut) != 0 || e != api.ErrItem {
			t.Errorf("Cut(%v, %d) = %v, %d", i, length, cut, e)
		}
	}
	if s, e := item.Encode(i); s != "" || e != api.ErrItem {
		t.Errorf("Encode(%v) = %x, %d", i, s, e)
	}
	for _, cut := range [][]int{nil, {}, {0}, {0, 1}, {-1}} {
		refusesCut(t, i, cut)
	}
}

// refusesCut fails unless all functions refuse cut as one of i.
func refusesCut(t testing.TB, i api.Item, cut []int) {
	t.Helper()
	if n, e := item.Length(i, cut); n != 0 || e != api.ErrItem {
		t.Errorf("Length(%v, %v) = %d, %d", i, cut, n, e)
	}
	for _, second := range []int{-1, 0, 5, i.Length - 1, i.Length} {
		if n, e := item.Place(i, cut, second); n != 0 || e != api.ErrItem {
			t.Errorf("Place(%v, %v, %d) = %d, %d", i, cut, second, n, e)
		}
		if n, e := item.Heard(i, cut, second); n != 0 || e != api.ErrItem {
			t.Errorf("Heard(%v, %v, %d) = %d, %d", i, cut, second, n, e)
		}
	}
	if l, e := item.Talk(i, cut); len(l) != 0 || e != api.ErrItem {
		t.Errorf("Talk(%v, %v) = %v, %d", i, cut, l, e)
	}
}

// checkItem fails unless Valid, Lengths, Cut and, for each cut of i, the functions of a cut return what the chapter says of the valid item i.
func checkItem(t testing.TB, i api.Item) {
	t.Helper()
	if !item.Valid(i) {
		t.Fatalf("%v is not valid", i)
	}
	checkLengths(t, i)
	for _, cut := range definedCuts(i) {
		checkCut(t, i, cut)
	}
}

// checkLengths fails unless Lengths and Cut return what the chapter says.
func checkLengths(t testing.TB, i api.Item) {
	t.Helper()
	cuts := definedCuts(i)
	lengths := definedLengths(i, cuts)
	first := map[int][]int{}
	for k, cut := range cuts {
		best, ok := first[lengths[k]]
		if !ok || len(cut) < len(best) || len(cut) == len(best) && slices.Compare(cut, best) < 0 {
			first[lengths[k]] = cut
		}
	}
	slices.Sort(lengths)
	lengths = slices.Compact(lengths)
	if l, e := item.Lengths(i); e != api.OK || !slices.Equal(l, lengths) {
		t.Fatalf("Lengths(%v) = %v, %d; want %v", i, l, e, lengths)
	}
	for length := -1; length <= i.Length+1; length++ {
		want, ok := first[length]
		cut, e := item.Cut(i, length)
		if ok && (e != api.OK || !slices.Equal(cut, want)) || !ok && (e != api.ErrItem || len(cut) != 0) {
			t.Fatalf("Cut(%v, %d) = %v, %d; want %v, %v", i, length, cut, e, want, ok)
		}
	}
}

// checkCut fails unless Length, Place, Heard and Talk return what the chapter says.
func checkCut(t testing.TB, i api.Item, cut []int) {
	t.Helper()
	places := definedPlaces(i, cut)
	if n, e := item.Length(i, cut); e != api.OK || n != len(places) {
		t.Fatalf("Length(%v, %v) = %d, %d; want %d", i, cut, n, e, len(places))
	}
	heard := slices.Repeat([]int{-1}, i.Length)
	for at, want := range places {
		if second, e := item.Place(i, cut, at); e != api.OK || second != want {
			t.Fatalf("Place(%v, %v, %d) = %d, %d; want %d", i, cut, at, second, e, want)
		}
		heard[want] = at
	}
	for second, want := range heard {
		if at, e := item.Heard(i, cut, second); e != api.OK || at != want {
			t.Fatalf("Heard(%v, %v, %d) = %d, %d; want %d", i, cut, second, at, e, want)
		}
	}
	for _, at := range []int{-1, len(places)} {
		if second, e := item.Place(i, cut, at); e != api.ErrItem || second != 0 {
			t.Fatalf("Place(%v, %v, %d) = %d, %d", i, cut, at, second, e)
		}
	}
	for _, second := range []int{-1, i.Length} {
		if at, e := item.Heard(i, cut, second); e != api.ErrItem || at != 0 {
			t.Fatalf("Heard(%v, %v, %d) = %d, %d", i, cut, second, at, e)
		}
	}
	want := definedTalk(i, places)
	if l, e := item.Talk(i, cut); e != api.OK || !slices.Equal(l, want) {
		t.Fatalf("Talk(%v, %v) = %v, %d; want %v", i, cut, l, e, want)
	}
}
