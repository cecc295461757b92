package item_test

import (
	"math/rand"
	"slices"
	"testing"

	"aircheck/api"
	"aircheck/item"
)

// P7.1: Place and Heard

func TestPlacesOfExamples(t *testing.T) {
	for _, c := range []struct {
		cut       []int
		at, place int
	}{
		{[]int{0}, 9, 9}, {[]int{0}, 10, 30}, {[]int{0}, 0, 0}, {[]int{0}, 179, 199}, {[]int{0}, 129, 149}, {[]int{0}, 130, 150},
		{nil, 0, 0}, {nil, 10, 10}, {nil, 199, 199},
		{[]int{1}, 149, 149}, {[]int{1}, 150, 180}, {[]int{1}, 169, 199},
		{[]int{0, 1}, 9, 9}, {[]int{0, 1}, 10, 30}, {[]int{0, 1}, 129, 149}, {[]int{0, 1}, 130, 180}, {[]int{0, 1}, 149, 199},
	} {
		if second, e := item.Place(song(), c.cut, c.at); second != c.place || e != api.OK {
			t.Errorf("Place without %v, at %d: %d, %d; want %d", c.cut, c.at, second, e, c.place)
		}
		if at, e := item.Heard(song(), c.cut, c.place); at != c.at || e != api.OK {
			t.Errorf("Heard without %v, of %d: %d, %d; want %d", c.cut, c.place, at, e, c.at)
		}
	}
	for _, second := range []int{10, 15, 29} {
		if at, e := item.Heard(song(), []int{0}, second); at != -1 || e != api.OK {
			t.Errorf("Heard without the trim 0, of %d: %d, %d", second, at, e)
		}
	}
}

func TestOtherSecondsAreRefused(t *testing.T) {
	for _, i := range items() {
		for _, cut := range definedCuts(i) {
			length := len(definedPlaces(i, cut))
			for _, n := range append([]int{length - 1, length, i.Length - 1, i.Length}, extremes...) {
				if second, e := item.Place(i, cut, n); (n < 0 || n >= length) && (second != 0 || e != api.ErrItem) {
					t.Errorf("Place(%v, %v, %d) = %d, %d", i, cut, n, second, e)
				}
				if at, e := item.Heard(i, cut, n); (n < 0 || n >= i.Length) && (at != 0 || e != api.ErrItem) {
					t.Errorf("Heard(%v, %v, %d) = %d, %d", i, cut, n, at, e)
				}
			}
		}
	}
}

// P7.4

func TestPlacesAscendAndSkipTheCut(t *testing.T) {
	r := rand.New(rand.NewSource(6))
	for range 1500 {
		i := anyItem(r, 50)
		for _, cut := range definedCuts(i) {
			length, _ := item.Length(i, cut)
			next := 0
			for at := range length + 1 {
				second, e := item.Place(i, cut, at)
				if at == length {
					second = i.Length
				} else if back, f := item.Heard(i, cut, second); e != api.OK || f != api.OK || back != at {
					t.Fatalf("Place(%v, %v, %d) = %d, %d; Heard of it: %d, %d", i, cut, at, second, e, back, f)
				}
				if second < next {
					t.Fatalf("the places of %v without %v do not ascend at %d", i, cut, at)
				}
				for ; next < second; next++ {
					if back, f := item.Heard(i, cut, next); f != api.OK || back != -1 || !isIn(trims(i, cut), next) {
						t.Fatalf("%d of %v without %v is skipped; Heard of it: %d, %d", next, i, cut, back, f)
					}
				}
				if at < length && isIn(trims(i, cut), second) {
					t.Fatalf("%d of %v is heard without %v", second, i, cut)
				}
				next++
			}
		}
	}
}

// P7.1: Talk

func TestTalkOfExamples(t *testing.T) {
	for _, c := range []struct {
		cut  []int
		want []api.Spell
	}{
		{[]int{0}, []api.Spell{{From: 0, To: 10}, {From: 150, To: 180}}},
		{[]int{1}, []api.Spell{{From: 0, To: 15}, {From: 150, To: 170}}},
		{nil, []api.Spell{{From: 0, To: 15}, {From: 170, To: 200}}},
		{[]int{0, 1}, []api.Spell{{From: 0, To: 10}, {From: 130, To: 150}}},
	} {
		if l, e := item.Talk(song(), c.cut); e != api.OK || !slices.Equal(l, c.want) {
			t.Errorf("Talk without %v: %v, %d; want %v", c.cut, l, e, c.want)
		}
	}
}

func TestTalkOfTalksThatMeet(t *testing.T) {
	i := api.Item{Kind: api.KTalk, Length: 40, Trims: []api.Spell{{From: 10, To: 20}, {From: 20, To: 25}}}
	for _, c := range []struct {
		why   string
		talks []api.Spell
		cut   []int
		want  []api.Spell
	}{
		{"there is no talk", nil, []int{0}, nil},
		{"they meet in the recording", []api.Spell{{From: 1, To: 3}, {From: 3, To: 5}, {From: 5, To: 6}}, nil, []api.Spell{{From: 1, To: 6}}},
		{"what is between them is left out", []api.Spell{{From: 5, To: 10}, {From: 20, To: 30}}, []int{0}, []api.Spell{{From: 5, To: 20}}},
		{"what is between them is left out, and more", []api.Spell{{From: 5, To: 12}, {From: 18, To: 30}}, []int{0}, []api.Spell{{From: 5, To: 20}}},
		{"a second more is between them", []api.Spell{{From: 5, To: 9}, {From: 20, To: 30}}, []int{0}, []api.Spell{{From: 5, To: 9}, {From: 10, To: 20}}},
		{"a second more is behind the trim", []api.Spell{{From: 5, To: 10}, {From: 21, To: 30}}, []int{0}, []api.Spell{{From: 5, To: 10}, {From: 11, To: 20}}},
		{"the trim between them stays", []api.Spell{{From: 5, To: 10}, {From: 20, To: 30}}, []int{1}, []api.Spell{{From: 5, To: 10}, {From: 20, To: 25}}},
		{"a talk is left out", []api.Spell{{From: 12, To: 18}}, []int{0}, nil},
		{"a talk is left out with its trim", []api.Spell{{From: 10, To: 20}}, []int{0}, nil},
		{"a talk between two others is left out", []api.Spell{{From: 5, To: 10}, {From: 12, To: 18}, {From: 20, To: 30}}, []int{0}, []api.Spell{{From: 5, To: 20}}},
		{"a talk is left out by two trims", []api.Spell{{From: 15, To: 23}}, []int{0, 1}, nil},
		{"all of it is a talk", []api.Spell{{From: 0, To: 40}}, []int{0, 1}, []api.Spell{{From: 0, To: 25}}},
	} {
		i.Talks = c.talks
		if l, e := item.Talk(i, c.cut); e != api.OK || !slices.Equal(l, c.want) {
			t.Errorf("%s: %v, %d; want %v", c.why, l, e, c.want)
		}
	}
}

// P7.5

// talkPlaces returns the seconds of the recording in whose second of the shortened item there is talk. It fails unless the spells of Talk are ascending and as long as possible, and have exactly the seconds whose place is in a talk.
func talkPlaces(t *testing.T, i api.Item, cut []int) []int {
	t.Helper()
	l, e := item.Talk(i, cut)
	if e != api.OK {
		t.Fatalf("Talk(%v, %v): %d", i, cut, e)
	}
	for k, s := range l {
		if s.From >= s.To || k > 0 && s.From <= l[k-1].To {
			t.Fatalf("Talk(%v, %v) = %v", i, cut, l)
		}
	}
	var out []int
	length, _ := item.Length(i, cut)
	for at := -1; at <= length; at++ {
		place, e := item.Place(i, cut, at)
		if is := e == api.OK && isIn(i.Talks, place); is != isIn(l, at) {
			t.Fatalf("Talk(%v, %v) = %v, but the place of %d is %d", i, cut, l, at, place)
		} else if is {
			out = append(out, place)
		}
	}
	return out
}

func TestAFurtherTrimAddsNoTalk(t *testing.T) {
	r := rand.New(rand.NewSource(7))
	compared := 0
	for range 1500 {
		i := anyItem(r, 50)
		for _, cut := range definedCuts(i) {
			talk := talkPlaces(t, i, cut)
			for index, s := range i.Trims {
				if slices.Contains(cut, index) {
					continue
				}
				compared++
				more := append(slices.Clone(cut), index)
				slices.Sort(more)
				less := talkPlaces(t, i, more)
				for _, second := range less {
					if !slices.Contains(talk, second) {
						t.Fatalf("%v: there is talk at %d without %v, but not without %v", i, second, more, cut)
					}
				}
				if len(talk)-len(less) > s.To-s.From {
					t.Fatalf("%v: %d seconds of talk without %v, %d without %v", i, len(talk), cut, len(less), more)
				}
			}
		}
	}
	if compared < 5000 {
		t.Errorf("only %d were compared", compared)
	}
}
