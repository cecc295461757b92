package rota_test

import (
	"math"
	"math/rand"
	"slices"
	"testing"

	"aircheck/api"
	"aircheck/rota"
)

// P11.1: Heard

func TestHeardOfExamples(t *testing.T) {
	r, _ := example()
	for _, x := range []struct {
		spans []api.Span
		want  []api.Aired
	}{
		{nil, nil},
		{[]api.Span{}, nil},
		{[]api.Span{{From: 0, To: 10, Owner: 4}, {From: 10, To: 20, Owner: 4}, {From: 20, To: 30, Owner: api.OwnerNone}, {From: 30, To: 40, Owner: 4}}, aired([2]int{3, 0}, [2]int{3, 30})},
		{[]api.Span{{From: 0, To: 10, Owner: 4}, {From: 11, To: 20, Owner: 4}}, aired([2]int{3, 0}, [2]int{3, 11})},
		{[]api.Span{{From: 0, To: 10, Owner: 4}, {From: 10, To: 20, Owner: 2}, {From: 20, To: 30, Owner: 4}}, aired([2]int{3, 0}, [2]int{1, 10}, [2]int{3, 20})},
		{[]api.Span{{From: 7, To: 8, Owner: 1}, {From: 8, To: 9, Owner: 5}, {From: 9, To: 10, Owner: 3}}, aired([2]int{2, 9})},
		{[]api.Span{{From: 0, To: 10000000, Owner: 2}}, aired([2]int{1, 0})},
		{[]api.Span{{From: 9999999, To: 10000000, Owner: 2}}, aired([2]int{1, 9999999})},
	} {
		if got := checkHeard(t, r, x.spans); !slices.Equal(got, x.want) {
			t.Errorf("Heard(%v) = %v; want %v", x.spans, got, x.want)
		}
	}
}

func TestOwnersThatAreNoSongsAreNotHeard(t *testing.T) {
	r, _ := example()
	for _, first := range extremes {
		for _, second := range extremes {
			checkHeard(t, r, []api.Span{{From: 0, To: 3, Owner: first}, {From: 3, To: 5, Owner: second}, {From: 5, To: 6, Owner: 3}})
		}
	}
	for id := range 210 {
		got := rota.Heard(full(), []api.Span{{From: 5, To: 6, Owner: api.OwnerItem + id}})
		if want := aired([2]int{id, 5}); id < 200 && !slices.Equal(got, want) || id >= 200 && len(got) != 0 {
			t.Errorf("the item %d: %v", id, got)
		}
	}
}

func TestEveryNumberOfASpanIsChecked(t *testing.T) {
	r, _ := example()
	for place := range 3 {
		for field := range 3 {
			for _, n := range extremes {
				spans := []api.Span{{From: 3, To: 60, Owner: 2}, {From: 61, To: 200, Owner: 2}, {From: 200, To: 300, Owner: 2}}
				*[]*int{&spans[place].From, &spans[place].To, &spans[place].Owner}[field] = n
				checkHeard(t, r, spans)
				if !definedAsSpans(spans) && len(rota.Heard(r, spans)) != 0 {
					t.Errorf("%v are heard", spans)
				}
			}
		}
	}
}

func TestSpansFollowEachOther(t *testing.T) {
	r, _ := example()
	for a := range 4 {
		for b := range 4 {
			for c := range 6 {
				for d := range 6 {
					spans := []api.Span{{From: a, To: b, Owner: 2}, {From: c, To: d, Owner: 3}}
					if got := checkHeard(t, r, spans); (len(got) == 2) != (a < b && b <= c && c < d) {
						t.Errorf("Heard(%v) = %v", spans, got)
					}
				}
			}
		}
	}
}

func TestSpansAreLimited(t *testing.T) {
	r, _ := example()
	for _, count := range []int{59, 60, 61, 62, 120, 199, 200, 201, 250, 100000} {
		var spans []api.Span
		for k := range count {
			spans = append(spans, api.Span{From: 2 * k, To: 2*k + 1, Owner: 2})
		}
		got := checkHeard(t, r, spans)
		if count > 200 && len(got) != 0 || count <= 200 && (len(got) != min(count, 60) || got[len(got)-1].At != 2*count-2) {
			t.Errorf("of %d spans are heard %v", count, got)
		}
	}
}

// spansOf returns the spans of seconds that have these owners. A span is divided before a second where the bit of that second is 1; the owner -1 stands for no span.
func spansOf(owners []int, divided int) []api.Span {
	var out []api.Span
	for at, owner := range owners {
		if owner == -1 {
			continue
		}
		if n := len(out); n > 0 && out[n-1].To == at && out[n-1].Owner == owner && divided>>at&1 == 0 {
			out[n-1].To++
			continue
		}
		out = append(out, api.Span{From: at, To: at + 1, Owner: owner})
	}
	return out
}

// P11.1 and P11.6

func TestAllSmallSpans(t *testing.T) {
	r := api.Rota{Items: []api.Item{song(0, 1, 1, 1), song(7, 1, 1, 1)}}
	for n := range 1024 {
		owners := make([]int, 5)
		for k := range owners {
			owners[k] = []int{1, 8, 0, -1}[n>>(2*k)&3]
		}
		var want []api.Aired
		for at, owner := range owners {
			if owner >= 1 && (at == 0 || owners[at-1] != owner) {
				want = append(want, api.Aired{Item: owner - 1, At: at})
			}
		}
		for divided := range 32 {
			if got := checkHeard(t, r, spansOf(owners, divided)); !slices.Equal(got, want) {
				t.Fatalf("of %v, divided at %b, are heard %v; want %v", owners, divided, got, want)
			}
		}
	}
}

func TestAnySpansAreHeardAsDefined(t *testing.T) {
	random := rand.New(rand.NewSource(1))
	full := 0
	for range 3000 {
		r := anyRota(random, random.Intn(8))
		spans := anySpans(random, r, random.Intn(201))
		if len(checkHeard(t, r, spans)) == 60 {
			full++
		}
	}
	if full < 100 {
		t.Errorf("60 songs were heard %d times", full)
	}
}

// P11.6

// divide returns spans with one of them divided in two, if that is possible.
func divide(random *rand.Rand, spans []api.Span) []api.Span {
	if len(spans) == 0 || len(spans) == 200 {
		return spans
	}
	k := random.Intn(len(spans))
	s := spans[k]
	if s.To-s.From == 1 {
		return spans
	}
	at := s.From + 1 + random.Intn(s.To-s.From-1)
	return slices.Concat(spans[:k], []api.Span{{From: s.From, To: at, Owner: s.Owner}, {From: at, To: s.To, Owner: s.Owner}}, spans[k+1:])
}

// exchange returns spans with other owners where no song of the rota is heard, and perhaps without a span of that kind.
func exchange(random *rand.Rand, r api.Rota, spans []api.Span) []api.Span {
	var out []api.Span
	for _, s := range spans {
		if _, ok := songWith(r, s.Owner-1); !ok {
			s.Owner = []int{0, 201, 1000, 2000, -5, math.MinInt, math.MaxInt}[random.Intn(7)]
			if random.Intn(5) == 0 {
				continue
			}
		}
		out = append(out, s)
	}
	return out
}

func TestHeardDependsOnlyOnTheSecondsOfSongs(t *testing.T) {
	random := rand.New(rand.NewSource(2))
	for range 3000 {
		r := anyRota(random, random.Intn(8))
		spans := anySpans(random, r, random.Intn(150))
		want := rota.Heard(r, spans)
		if !rota.ValidHistory(r, want) {
			t.Fatalf("Heard(%v, %v) = %v, which is no history", r, spans, want)
		}
		other := spans
		for range random.Intn(10) {
			other = divide(random, other)
		}
		other = exchange(random, r, other)
		if got := rota.Heard(r, other); !slices.Equal(got, want) {
			t.Fatalf("of %v are heard %v, of %v %v", spans, want, other, got)
		}
	}
}

func TestWhatIsHeardCanBeFollowed(t *testing.T) {
	random := rand.New(rand.NewSource(3))
	for range 1000 {
		r := anyRota(random, 1+random.Intn(8))
		spans := anySpans(random, r, 1+random.Intn(200))
		checkCase(t, r, rota.Heard(r, spans), spans[len(spans)-1].To, anyRanking(random, r, 8))
	}
}

// P11.4

// checkForgotten fails unless, without any of the first songs of history that Recent returns for at, the breaches of songs from at on are the same, with lower indices.
func checkForgotten(t *testing.T, r api.Rota, h []api.Aired, at int) int {
	t.Helper()
	recent := rota.Recent(r, h, at)
	for n := range recent + 1 {
		for _, late := range []int{0, 1, 7, 300} {
			if at+late >= api.MaxTime {
				continue
			}
			for _, i := range r.Items {
				x := api.Aired{Item: i.ID, At: at + late}
				var want []api.Breach
				for _, b := range rota.Breaches(r, h, x) {
					if b.With != -1 {
						b.With -= n
					}
					want = append(want, b)
				}
				if got := rota.Breaches(r, h[n:], x); !slices.Equal(got, want) {
					t.Fatalf("Breaches(%v, %v, %v) = %v; without the first %d songs %v", r, h, x, want, n, got)
				}
			}
		}
	}
	return recent
}

func TestForgottenSongsPlayNoPart(t *testing.T) {
	random := rand.New(rand.NewSource(4))
	forgotten := 0
	for range 3000 {
		r := anyRota(random, 1+random.Intn(4))
		h, at := anyHistory(random, r, random.Intn(20))
		if checkForgotten(t, r, h, at) > 0 {
			forgotten++
		}
		if next := at + random.Intn(1000); next < api.MaxTime {
			checkForgotten(t, r, h, next)
		}
	}
	if forgotten < 500 {
		t.Errorf("songs were forgotten %d times", forgotten)
	}
}

func TestForgottenSongsOfSmallHistories(t *testing.T) {
	items := []api.Item{song(0, 1, 1, 1), song(1, 1, 2, 2)}
	for gap := 1; gap <= 4; gap++ {
		for of := 1; of <= 3; of++ {
			for bits := range 16 {
				for at := 5; at <= 9; at++ {
					r := api.Rota{
						Items:  items,
						Rules:  []api.Rule{{Field: api.RItem, Gap: gap}, {Field: api.RArtist, Gap: 2}},
						Quotas: []api.Quota{{Language: 1, Of: 1, Least: 0}, {Language: 2, Of: of, Least: 1}},
					}
					h := aired([2]int{bits & 1, 0}, [2]int{bits >> 1 & 1, 2}, [2]int{bits >> 2 & 1, 3}, [2]int{bits >> 3 & 1, 4})
					checkForgotten(t, r, h, at)
					if of < 3 {
						r.Quotas = r.Quotas[:of-1]
						checkForgotten(t, r, h, at)
					}
				}
			}
		}
	}
}

// P11.5

// wasAllowed reports whether each song of h, from the first one on, was allowed when it was chosen.
func wasAllowed(r api.Rota, h []api.Aired) bool {
	for k, x := range h {
		if !rota.Allowed(r, h[:k], x) {
			return false
		}
	}
	return true
}

// chosen returns a history of which Pick chose each song.
func chosen(t *testing.T, random *rand.Rand, r api.Rota) []api.Aired {
	t.Helper()
	var h []api.Aired
	at := random.Intn(50)
	for range random.Intn(100) {
		ranked := anyRanking(random, r, 20)
		if id, ok := picked(t, r, h, at, ranked); ok && len(h) < 60 {
			h = append(h, api.Aired{Item: id, At: at})
		}
		at += 1 + random.Intn(60)
	}
	return h
}

func TestChosenSongsKeepTheRules(t *testing.T) {
	random := rand.New(rand.NewSource(5))
	songs := 0
	for range 600 {
		r := anyRota(random, 1+random.Intn(20))
		h := chosen(t, random, r)
		if !wasAllowed(r, h) || !keepsRules(r, h) {
			t.Fatalf("%v, of which each song was chosen, breaks the rules of %v", h, r)
		}
		songs += len(h)
	}
	if songs < 6000 {
		t.Errorf("%d songs were chosen", songs)
	}
}

func TestAllowedHistoriesAreThoseThatKeepTheRules(t *testing.T) {
	random := rand.New(rand.NewSource(6))
	allowed := 0
	for range 20000 {
		r := anyRota(random, 1+random.Intn(6))
		h, _ := anyHistory(random, r, random.Intn(8))
		if wasAllowed(r, h) != keepsRules(r, h) {
			t.Fatalf("the songs of %v were allowed by %v: %v", h, r, wasAllowed(r, h))
		}
		if len(h) > 2 && wasAllowed(r, h) {
			allowed++
		}
	}
	if allowed < 1000 {
		t.Errorf("%d histories were allowed", allowed)
	}
}

func TestSmallAllowedHistoriesAreThoseThatKeepTheRules(t *testing.T) {
	items := []api.Item{song(0, 1, 1, 1), song(1, 1, 2, 2), song(2, 2, 2, 1)}
	for _, ids := range lists([]int{0, 1, 2}, 4) {
		for field := 1; field <= 4; field++ {
			for gap := 1; gap <= 5; gap++ {
				for of := 1; of <= 3; of++ {
					r := api.Rota{Items: items, Rules: []api.Rule{{Field: field, Gap: gap}}, Quotas: []api.Quota{{Language: 1, Of: of, Least: of - 1}}}
					var h []api.Aired
					for k, id := range ids {
						h = append(h, api.Aired{Item: id, At: 2*k + k*k%3})
					}
					if wasAllowed(r, h) != keepsRules(r, h) {
						t.Fatalf("the songs of %v were allowed by %v: %v", h, r, wasAllowed(r, h))
					}
				}
			}
		}
	}
}
