package item_test

import (
	"math"
	"math/rand"
	"slices"
	"strings"
	"testing"

	"aircheck/api"
	"aircheck/item"
	"aircheck/wire"
)

// P7.1: Valid

func TestValidItems(t *testing.T) {
	for _, i := range items() {
		checkItem(t, i)
	}
	for _, change := range []func(i *api.Item){
		func(i *api.Item) { i.ID = 0 },
		func(i *api.Item) { i.ID = 199 },
		func(i *api.Item) { i.Length, i.Talks = 180, nil },
		func(i *api.Item) { i.Artist, i.Tempo, i.Language = 0, 1, 1 },
		func(i *api.Item) { i.Artist, i.Tempo, i.Language = 99, 5, 4 },
		func(i *api.Item) { i.Length, i.Talks[1].To = 3600, 3600 },
		func(i *api.Item) { i.Trims[1].From = 30 },
		func(i *api.Item) { i.Talks = nil; i.Trims = nil; i.Length = 1 },
		func(i *api.Item) { i.Trims = []api.Spell{{From: 0, To: 199}} },
		func(i *api.Item) { i.Trims = []api.Spell{{From: 1, To: 200}} },
		func(i *api.Item) { i.Talks = []api.Spell{{From: 0, To: 200}} },
	} {
		i := song()
		change(&i)
		checkItem(t, i)
	}
	for kind := api.KSpot; kind <= api.KNews; kind++ {
		checkItem(t, api.Item{Kind: kind, Length: 30})
		refusesItem(t, api.Item{Kind: kind, Length: 30, Artist: 1})
		refusesItem(t, api.Item{Kind: kind, Length: 30, Tempo: 1})
		refusesItem(t, api.Item{Kind: kind, Length: 30, Language: 1})
	}
}

func TestInvalidItemsAreRefused(t *testing.T) {
	refusesItem(t, api.Item{})
	for k, change := range []func(i *api.Item){
		func(i *api.Item) { i.Kind = api.KTalk },
		func(i *api.Item) { i.Length = 199 },
		func(i *api.Item) { i.Trims[0].To = 151 },
		func(i *api.Item) { i.Trims[0], i.Trims[1] = i.Trims[1], i.Trims[0] },
		func(i *api.Item) { i.Trims[1] = i.Trims[0] },
		func(i *api.Item) { i.Trims[0].From = 30 },
		func(i *api.Item) { i.Talks[1].From = 14 },
		func(i *api.Item) { i.Talks[0], i.Talks[1] = i.Talks[1], i.Talks[0] },
		func(i *api.Item) { i.Talks[1] = i.Talks[0] },
		func(i *api.Item) { i.Talks[1].To = 201 },
		func(i *api.Item) { i.Talks = append(i.Talks, api.Spell{From: 200, To: 200}) },
		func(i *api.Item) { i.Talks = append(i.Talks, api.Spell{From: 200, To: 201}) },
		func(i *api.Item) { i.Talks = append(i.Talks, api.Spell{}) },
		func(i *api.Item) { i.Trims = append(i.Trims, api.Spell{}) },
		func(i *api.Item) { i.Trims = []api.Spell{{From: 0, To: 200}} },
		func(i *api.Item) { i.Trims = []api.Spell{{From: 0, To: 100}, {From: 100, To: 200}} },
		func(i *api.Item) {
			i.Trims = []api.Spell{{From: 0, To: 50}, {From: 50, To: 100}, {From: 100, To: 199}, {From: 199, To: 200}}
		},
		// Their seconds together, with wraparound, would be few.
		func(i *api.Item) { i.Trims = []api.Spell{{From: math.MinInt, To: math.MaxInt}} },
		func(i *api.Item) {
			i.Trims = []api.Spell{{From: 0, To: math.MaxInt}, {From: math.MinInt, To: 0}}
		},
	} {
		i := song()
		change(&i)
		if definedAsValid(i) {
			t.Errorf("the change %d makes no invalid item", k)
		}
		refusesItem(t, i)
	}
}

func TestTrimsAndTalksAreAtMostFour(t *testing.T) {
	var l []api.Spell
	for k := range 6 {
		l = append(l, api.Spell{From: 2 * k, To: 2*k + 1})
	}
	for n := range 7 {
		trimmed := api.Item{Kind: api.KSpot, Length: 100, Trims: l[:n]}
		talked := api.Item{Kind: api.KSpot, Length: 100, Talks: l[:n]}
		if n <= 4 {
			checkItem(t, trimmed)
			checkItem(t, talked)
		} else {
			refusesItem(t, trimmed)
			refusesItem(t, talked)
		}
	}
	many := make([]api.Spell, 100000)
	for k := range many {
		many[k] = api.Spell{From: k, To: k + 1}
	}
	refusesItem(t, api.Item{Kind: api.KSpot, Length: 3600, Trims: many})
	refusesItem(t, api.Item{Kind: api.KSpot, Length: 3600, Talks: many})
}

// fields returns pointers to the numbers of i.
func fields(i *api.Item) []*int {
	out := []*int{&i.ID, &i.Kind, &i.Length, &i.Artist, &i.Tempo, &i.Language}
	for _, l := range [][]api.Spell{i.Trims, i.Talks} {
		for k := range l {
			out = append(out, &l[k].From, &l[k].To)
		}
	}
	return out
}

func TestEveryNumberIsChecked(t *testing.T) {
	count := len(fields(&api.Item{Trims: make([]api.Spell, 2), Talks: make([]api.Spell, 2)}))
	if count != 14 {
		t.Fatalf("there are %d numbers", count)
	}
	for field := range count {
		for _, n := range extremes {
			i := song()
			*fields(&i)[field] = n
			if definedAsValid(i) {
				checkItem(t, i)
			} else {
				refusesItem(t, i)
			}
		}
	}
}

func TestEveryTwoNumbersAreChecked(t *testing.T) {
	for a := range 14 {
		for b := range a {
			for _, n := range extremes {
				for _, m := range extremes {
					i := song()
					*fields(&i)[a], *fields(&i)[b] = n, m
					if item.Valid(i) != definedAsValid(i) {
						t.Fatalf("Valid(%v) = %v", i, item.Valid(i))
					}
				}
			}
		}
	}
}

func TestAllSmallPartsAreChecked(t *testing.T) {
	// all pairs of spells from -1 to 5, of a recording of 4 seconds
	var spells []api.Spell
	for from := -1; from <= 5; from++ {
		for to := -1; to <= 5; to++ {
			spells = append(spells, api.Spell{From: from, To: to})
		}
	}
	for _, a := range spells {
		for _, b := range spells {
			for _, i := range []api.Item{
				{Kind: api.KNews, Length: 4, Trims: []api.Spell{a, b}},
				{Kind: api.KNews, Length: 4, Talks: []api.Spell{a, b}},
				{Kind: api.KNews, Length: 4, Trims: []api.Spell{a}, Talks: []api.Spell{b}},
			} {
				if item.Valid(i) != definedAsValid(i) {
					t.Fatalf("Valid(%v) = %v", i, item.Valid(i))
				}
			}
		}
	}
}

// P7.1: all functions

func TestAllSmallItemsAreAsDefined(t *testing.T) {
	count := 0
	smallItems(6, func(i api.Item) {
		count++
		checkItem(t, i)
	})
	if count < 40000 {
		t.Errorf("only %d were checked", count)
	}
}

func TestAnyItemIsAsDefined(t *testing.T) {
	r := rand.New(rand.NewSource(1))
	for range 3000 {
		checkItem(t, anyItem(r, 40))
	}
	for range 20 {
		checkItem(t, anyItem(r, 3600))
	}
}

// P7.1: cuts

func TestOtherListsAreNoCuts(t *testing.T) {
	for _, i := range items() {
		lists := [][]int{nil}
		for k := 0; k < len(lists); k++ {
			for index := -1; index <= len(i.Trims) && len(lists[k]) < 4; index++ {
				lists = append(lists, append(slices.Clone(lists[k]), index))
			}
		}
		for _, index := range extremes {
			lists = append(lists, []int{index}, []int{0, index}, []int{index, 0}, []int{index, index})
		}
		lists = append(lists, []int{0, 1, 2, 3, 4}, []int{0, 1, 2, 3, 3}, make([]int, 100000))
		for _, cut := range lists {
			if !definedAsCut(i, cut) {
				refusesCut(t, i, cut)
			} else if n, e := item.Length(i, cut); e != api.OK || n != len(definedPlaces(i, cut)) {
				t.Errorf("Length(%v, %v) = %d, %d", i, cut, n, e)
			}
		}
	}
}

func TestEmptyListsAreLikeNone(t *testing.T) {
	none := api.Item{ID: 1, Kind: api.KNews, Length: 30}
	empty := api.Item{ID: 1, Kind: api.KNews, Length: 30, Trims: []api.Spell{}, Talks: []api.Spell{}}
	checkItem(t, empty)
	a, e := item.Encode(none)
	b, f := item.Encode(empty)
	if a != b || e != api.OK || f != api.OK {
		t.Errorf("%x, %d and %x, %d", a, e, b, f)
	}
	checkCut(t, song(), []int{})
}

// P7.1: Lengths and Cut

func TestLengthsOfExamples(t *testing.T) {
	if l, e := item.Lengths(song()); e != api.OK || !slices.Equal(l, []int{150, 170, 180, 200}) {
		t.Errorf("Lengths = %v, %d", l, e)
	}
	for _, c := range []struct {
		length int
		cut    []int
		e      api.Errno
	}{
		{170, []int{1}, api.OK}, {160, nil, api.ErrItem}, {200, nil, api.OK}, {180, []int{0}, api.OK}, {150, []int{0, 1}, api.OK},
		{149, nil, api.ErrItem}, {201, nil, api.ErrItem}, {0, nil, api.ErrItem}, {-1, nil, api.ErrItem}, {-170, nil, api.ErrItem},
	} {
		if cut, e := item.Cut(song(), c.length); e != c.e || !slices.Equal(cut, c.cut) {
			t.Errorf("Cut of %d: %v, %d", c.length, cut, e)
		}
	}
}

func TestCutPrefersFewAndFirstIndices(t *testing.T) {
	sized := func(sizes ...int) api.Item {
		i := api.Item{Kind: api.KTalk, Length: 1000}
		at := 0
		for _, n := range sizes {
			i.Trims = append(i.Trims, api.Spell{From: at, To: at + n})
			at += n + 1
		}
		return i
	}
	for _, c := range []struct {
		i    api.Item
		less int
		cut  []int
	}{
		{sized(10, 10, 20), 20, []int{2}},
		{sized(10, 10, 20), 10, []int{0}},
		{sized(10, 10, 20), 30, []int{0, 2}},
		{sized(10, 10, 10, 10), 10, []int{0}},
		{sized(10, 10, 10, 10), 20, []int{0, 1}},
		{sized(10, 10, 10, 10), 30, []int{0, 1, 2}},
		{sized(10, 10, 10, 10), 40, []int{0, 1, 2, 3}},
		{sized(1, 2, 3, 4), 5, []int{0, 3}}, // not 1 and 2, which have the same length
		{sized(1, 3, 2, 4), 5, []int{0, 3}},
		{sized(4, 2, 3, 1), 5, []int{0, 3}},
		{sized(2, 1, 4, 3), 5, []int{0, 3}},
		{sized(1, 2, 3, 6), 6, []int{3}}, // not 0, 1 and 2, which come first
		{sized(1, 2, 3, 5), 6, []int{0, 3}},
		{sized(3, 2, 1, 5), 6, []int{2, 3}}, // not 0, 1 and 2
		{sized(3, 1, 2, 1), 4, []int{0, 1}},
	} {
		if cut, e := item.Cut(c.i, 1000-c.less); e != api.OK || !slices.Equal(cut, c.cut) {
			t.Errorf("Cut(%v, %d) = %v, %d; want %v", c.i, 1000-c.less, cut, e, c.cut)
		}
	}
}

func TestOtherLengthsAreRefused(t *testing.T) {
	for _, i := range items() {
		l, _ := item.Lengths(i)
		for _, n := range extremes {
			if cut, e := item.Cut(i, n); !slices.Contains(l, n) && (e != api.ErrItem || len(cut) != 0) {
				t.Errorf("Cut(%v, %d) = %v, %d", i, n, cut, e)
			}
		}
	}
}

// P7.2

func TestLengthsAreSymmetric(t *testing.T) {
	r := rand.New(rand.NewSource(2))
	for range 2000 {
		i := anyItem(r, []int{10, 50, 3600}[r.Intn(3)])
		trimmed := 0
		for _, s := range i.Trims {
			trimmed += s.To - s.From
		}
		l, e := item.Lengths(i)
		if e != api.OK || len(l) == 0 || l[0] != i.Length-trimmed || l[len(l)-1] != i.Length {
			t.Fatalf("Lengths(%v) = %v, %d", i, l, e)
		}
		for k := range l {
			if l[k]+l[len(l)-1-k] != l[0]+l[len(l)-1] || k > 0 && l[k-1] >= l[k] {
				t.Fatalf("Lengths(%v) = %v", i, l)
			}
		}
	}
}

// P7.3

func TestNoCutIsBetter(t *testing.T) {
	r := rand.New(rand.NewSource(3))
	for range 1000 {
		i := anyItem(r, 30)
		l, _ := item.Lengths(i)
		for length := -3; length <= i.Length+3; length++ {
			best, e := item.Cut(i, length)
			if !slices.Contains(l, length) {
				if len(best) != 0 || e != api.ErrItem {
					t.Fatalf("Cut(%v, %d) = %v, %d", i, length, best, e)
				}
				continue
			}
			if n, f := item.Length(i, best); n != length || e != api.OK || f != api.OK {
				t.Fatalf("Cut(%v, %d) = %v, %d, which gives %d, %d", i, length, best, e, n, f)
			}
			for _, cut := range definedCuts(i) {
				if n, _ := item.Length(i, cut); n == length && (len(cut) < len(best) || len(cut) == len(best) && slices.Compare(cut, best) < 0) {
					t.Fatalf("Cut(%v, %d) = %v, but %v is better", i, length, best, cut)
				}
			}
		}
	}
}

// P7.1 and P7.6: Encode

func TestEncodeOfExamples(t *testing.T) {
	for _, c := range []struct {
		i    api.Item
		want string
	}{
		{song(), "\x06\x02\x90\x03\x0e\x06\x04\x04\x14\x3c\xac\x02\xe8\x02\x04\x00\x1e\xd4\x02\x90\x03"},
		{api.Item{Kind: api.KSpot, Length: 1}, "\x00\x04\x02\x00\x00\x00\x00\x00"},
		{api.Item{ID: 199, Kind: api.KNews, Length: 3600, Talks: []api.Spell{{From: 1, To: 2}}}, "\x8e\x03\x0a\xa0\x38\x00\x00\x00\x00\x02\x02\x04"},
		{api.Item{ID: 199, Kind: api.KNews, Length: 3600, Trims: []api.Spell{{From: 1, To: 2}}}, "\x8e\x03\x0a\xa0\x38\x00\x00\x00\x02\x02\x04\x00"},
	} {
		if s, e := item.Encode(c.i); s != c.want || e != api.OK {
			t.Errorf("Encode(%v) = %x, %d; want %x", c.i, s, e, c.want)
		}
	}
}

// reader decodes integers that follow each other.
type reader struct {
	t  testing.TB
	s  string
	at int
}

func (r *reader) number() int {
	n, next, e := wire.Int(r.s, r.at)
	if e != api.OK {
		r.t.Fatalf("%x has no integer at %d", r.s, r.at)
	}
	r.at = next
	return n
}

func (r *reader) spells() []api.Spell {
	var out []api.Spell
	for range r.number() {
		from := r.number()
		out = append(out, api.Spell{From: from, To: r.number()})
	}
	return out
}

// decode returns the item that is encoded at the beginning of s, and the number of bytes of its encoding.
func decode(t testing.TB, s string) (api.Item, int) {
	r := &reader{t: t, s: s}
	i := api.Item{ID: r.number(), Kind: r.number(), Length: r.number(), Artist: r.number(), Tempo: r.number(), Language: r.number()}
	i.Trims = r.spells()
	i.Talks = r.spells()
	return i, r.at
}

// same reports whether the items have the same numbers.
func same(a, b api.Item) bool {
	return a.ID == b.ID && a.Kind == b.Kind && a.Length == b.Length && a.Artist == b.Artist && a.Tempo == b.Tempo && a.Language == b.Language &&
		slices.Equal(a.Trims, b.Trims) && slices.Equal(a.Talks, b.Talks)
}

// checkEncoding fails unless what Encode returns can be decoded, whatever follows it, and returns it.
func checkEncoding(t testing.TB, i api.Item) string {
	t.Helper()
	s, e := item.Encode(i)
	if e != api.OK {
		t.Fatalf("Encode(%v) = %d", i, e)
	}
	for _, after := range []string{"", "\x00", "\x80", s} {
		if back, size := decode(t, s+after); size != len(s) || !same(i, back) {
			t.Fatalf("Encode(%v) = %x, which is %v", i, s, back)
		}
	}
	return s
}

func TestEncodingsCanBeDecoded(t *testing.T) {
	r := rand.New(rand.NewSource(4))
	for _, i := range items() {
		checkEncoding(t, i)
	}
	for range 5000 {
		checkEncoding(t, anyItem(r, []int{5, 300, 3600}[r.Intn(3)]))
	}
}

func TestNoEncodingBeginsAnotherOne(t *testing.T) {
	var all []string
	smallItems(4, func(i api.Item) { all = append(all, checkEncoding(t, i)) })
	for _, i := range items() {
		for _, field := range fields(&i) {
			for _, by := range []int{-1, 0, 1} {
				*field += by
				if item.Valid(i) && by != 0 {
					all = append(all, checkEncoding(t, i))
				}
				*field -= by
			}
		}
	}
	slices.Sort(all)
	for k := 1; k < len(all); k++ {
		if strings.HasPrefix(all[k], all[k-1]) {
			t.Errorf("%x begins with %x", all[k], all[k-1])
		}
	}
}

// R3 and R4

// withSpare returns a copy of l with more elements behind it, and all of them.
func withSpare[T any](l []T, extra T) ([]T, []T) {
	all := append(slices.Clone(l), extra, extra, extra)
	return all[:len(l)], all
}

func TestArgumentsAreNotChanged(t *testing.T) {
	r := rand.New(rand.NewSource(5))
	for range 300 {
		i := anyItem(r, 30)
		plain := i
		l := definedCuts(i)
		cut, cuts := withSpare(l[r.Intn(len(l))], -7)
		trims, allTrims := withSpare(i.Trims, api.Spell{From: 40, To: 50})
		talks, allTalks := withSpare(i.Talks, api.Spell{From: 40, To: 50})
		cutsBefore, trimsBefore, talksBefore := slices.Clone(cuts), slices.Clone(allTrims), slices.Clone(allTalks)
		i.Trims, i.Talks = trims, talks
		checkLengths(t, i)
		checkCut(t, i, cut)
		checkEncoding(t, i)
		if !slices.Equal(cuts, cutsBefore) || !slices.Equal(allTrims, trimsBefore) || !slices.Equal(allTalks, talksBefore) {
			t.Fatalf("arguments of %v were changed", plain)
		}
		checkItem(t, i)
	}
}

// spoil overwrites l and its spare capacity.
func spoil[T any](l []T, with T) {
	l = l[:cap(l)]
	for k := range l {
		l[k] = with
	}
}

func TestResultsAreNewMemory(t *testing.T) {
	for _, i := range items() {
		checkItem(t, i)
		keep := api.Item{Trims: slices.Clone(i.Trims), Talks: slices.Clone(i.Talks)}
		lengths, _ := item.Lengths(i)
		all := slices.Clone(lengths)
		spoil(lengths, -1)
		var results [][]int
		for _, length := range all {
			cut, _ := item.Cut(i, length)
			talk, _ := item.Talk(i, cut)
			spoil(talk, api.Spell{From: -1, To: -1})
			results = append(results, cut)
		}
		for _, cut := range results {
			spoil(cut, -1)
		}
		if !slices.Equal(i.Trims, keep.Trims) || !slices.Equal(i.Talks, keep.Talks) {
			t.Fatalf("a result shares memory with %v", i)
		}
		checkItem(t, i)
	}
}

func FuzzItem(f *testing.F) {
	f.Add(3, 1, 200, 7, 3, 2, 10, 30, 150, 180, 0, 15, 170, 200, 1, 170)
	f.Add(0, 2, 10, 0, 0, 0, 0, 4, 6, 10, 1, 3, 5, 7, 0, 6)
	f.Add(-1, 0, 0, 0, 0, 0, 0, 0, 0, 0, 0, 0, 0, 0, 0, 0)
	f.Fuzz(func(t *testing.T, id, kind, length, artist, tempo, language, from1, to1, from2, to2, from3, to3, from4, to4, index, at int) {
		i := api.Item{
			ID: id, Kind: kind, Length: length, Artist: artist, Tempo: tempo, Language: language,
			Trims: []api.Spell{{From: from1, To: to1}, {From: from2, To: to2}},
			Talks: []api.Spell{{From: from3, To: to3}, {From: from4, To: to4}},
		}
		if !definedAsValid(i) {
			refusesItem(t, i)
			return
		}
		checkItem(t, i)
		checkEncoding(t, i)
		cut := []int{index}
		if !definedAsCut(i, cut) {
			refusesCut(t, i, cut)
			return
		}
		if second, e := item.Place(i, cut, at); (e == api.OK) != (0 <= at && at < len(definedPlaces(i, cut))) {
			t.Fatalf("Place(%v, %v, %d) = %d, %d", i, cut, at, second, e)
		}
		if second, e := item.Heard(i, cut, at); (e == api.OK) != (0 <= at && at < i.Length) {
			t.Fatalf("Heard(%v, %v, %d) = %d, %d", i, cut, at, second, e)
		}
	})
}
