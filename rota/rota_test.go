package rota_test

import (
	"math/rand"
	"reflect"
	"slices"
	"testing"

	"aircheck/api"
	"aircheck/rota"
)

// P11.1: Valid

func TestValidRotas(t *testing.T) {
	r, _ := example()
	trimmed := song(0, 0, 1, 1)
	trimmed.Trims, trimmed.Talks = []api.Spell{{From: 0, To: 179}}, []api.Spell{{From: 0, To: 180}}
	for _, r := range []api.Rota{
		{},
		{Items: []api.Item{}, Rules: []api.Rule{}, Quotas: []api.Quota{}},
		r,
		full(),
		{Items: r.Items},
		{Rules: r.Rules},
		{Quotas: r.Quotas},
		{Items: []api.Item{trimmed, song(199, 99, 5, 4)}},
		{Rules: []api.Rule{{Field: 1, Gap: 1}, {Field: 4, Gap: 604800}, {Field: 4, Gap: 604800}}},
		{Quotas: []api.Quota{{Language: 1, Of: 1, Least: 0}, {Language: 4, Of: 1, Least: 1}, {Language: 4, Of: 60, Least: 60}, {Language: 4, Of: 60, Least: 0}}},
	} {
		if !rota.Valid(r) || !rota.ValidHistory(r, nil) || !rota.ValidHistory(r, []api.Aired{}) {
			t.Errorf("%v is not valid", r)
		}
	}
}

func TestNumbersOfSongsRulesAndQuotasAreLimited(t *testing.T) {
	for n := range 20 {
		r, _ := example()
		r.Rules = slices.Repeat(r.Rules[:1], n)
		if n > 8 {
			refusesRota(t, r)
		} else if !rota.Valid(r) {
			t.Errorf("%d rules are not valid", n)
		}
		r, _ = example()
		r.Quotas = slices.Repeat(r.Quotas, n)
		if n > 4 {
			refusesRota(t, r)
		} else if !rota.Valid(r) {
			t.Errorf("%d quotas are not valid", n)
		}
	}
	many := full()
	many.Items = append(many.Items, song(200, 1, 1, 1))
	refusesRota(t, many)
	many.Items = slices.Repeat(full().Items, 100)
	refusesRota(t, many)
}

func TestItemsAreValidSongs(t *testing.T) {
	for place := range 3 {
		for index, change := range []func(i *api.Item){
			func(i *api.Item) { *i = api.Item{} },
			func(i *api.Item) { i.Trims = []api.Spell{{From: 0, To: 180}} },
			func(i *api.Item) { i.Trims = []api.Spell{{From: 10, To: 10}} },
			func(i *api.Item) { i.Trims = []api.Spell{{From: 0, To: 10}, {From: 9, To: 11}} },
			func(i *api.Item) { i.Talks = []api.Spell{{From: 10, To: 181}} },
			func(i *api.Item) { i.Talks = make([]api.Spell, 5) },
			func(i *api.Item) { i.Kind, i.Artist, i.Tempo, i.Language = api.KSpot, 0, 0, 0 },
			func(i *api.Item) { i.Kind, i.Artist, i.Tempo, i.Language = api.KNews, 0, 0, 0 },
			func(i *api.Item) { i.Kind = api.KTalk },
		} {
			r, _ := example()
			change(&r.Items[place])
			if definedAsRota(r) {
				t.Fatalf("the change %d leaves the rota valid", index)
			}
			refusesRota(t, r)
		}
	}
}

func TestIDsOfItemsAscend(t *testing.T) {
	for a := range 5 {
		for b := range 5 {
			for c := range 5 {
				r := api.Rota{Items: []api.Item{song(a, 1, 1, 1), song(b, 1, 1, 1), song(c, 1, 1, 1)}}
				if a >= b || b >= c {
					refusesRota(t, r)
				} else if !rota.Valid(r) {
					t.Errorf("%d, %d, %d are not valid", a, b, c)
				}
			}
		}
	}
}

func TestEveryNumberOfARotaIsChecked(t *testing.T) {
	r, _ := example()
	for field := range numbers(&r) {
		for _, n := range extremes {
			r, h := example()
			*numbers(&r)[field] = n
			if !definedAsRota(r) {
				refusesRota(t, r)
			}
			checkCase(t, r, h, 250, []int{1, 2, 3})
			checkCase(t, r, nil, 250, []int{2, 3})
		}
	}
}

func TestEveryTwoNumbersOfRulesAndQuotasAreChecked(t *testing.T) {
	for x := range 2 + 3 {
		for y := range x {
			for _, n := range extremes {
				for _, m := range extremes {
					r := api.Rota{Rules: []api.Rule{{Field: 1, Gap: 5}}, Quotas: []api.Quota{{Language: 1, Of: 9, Least: 4}}}
					l := numbers(&r)
					*l[x], *l[y] = n, m
					if rota.Valid(r) != definedAsRota(r) {
						t.Fatalf("Valid(%v) = %v", r, rota.Valid(r))
					}
				}
			}
		}
	}
}

func TestLastRuleAndQuotaAreChecked(t *testing.T) {
	r := full()
	r.Rules[7].Gap = 0
	refusesRota(t, r)
	r = full()
	r.Quotas[3].Least = 61
	refusesRota(t, r)
	r = full()
	r.Items[199].Tempo = 6
	refusesRota(t, r)
}

// P11.1: ValidHistory

func TestHistoriesAreLimited(t *testing.T) {
	r, _ := example()
	var h []api.Aired
	for n := range 70 {
		if n > 60 {
			refusesHistory(t, r, h, 500, []int{1, 2, 3})
		} else {
			checkCase(t, r, h, 500, []int{1, 2, 3})
			if !rota.ValidHistory(r, h) {
				t.Errorf("%d songs are no history", n)
			}
		}
		h = append(h, api.Aired{Item: 1 + n%3, At: n})
	}
}

func TestEveryNumberOfAHistoryIsChecked(t *testing.T) {
	for place := range 4 {
		for _, n := range extremes {
			for field := range 2 {
				r, _ := example()
				h := aired([2]int{1, 10}, [2]int{3, 200}, [2]int{2, 400}, [2]int{1, 700})
				*[]*int{&h[place].Item, &h[place].At}[field] = n
				checkCase(t, r, h, 1000, []int{1, 2, 3})
				if !definedAsHistory(r, h) {
					refusesHistory(t, r, h, 1000, []int{1, 2, 3})
					refusesHistory(t, r, h, 9999999, []int{1, 2, 3})
				}
			}
		}
	}
}

func TestAllSmallHistoriesAreChecked(t *testing.T) {
	r := api.Rota{Items: []api.Item{song(1, 1, 1, 1), song(3, 1, 1, 1)}}
	for a := -1; a < 5; a++ {
		for b := -1; b < 5; b++ {
			for c := -1; c < 5; c++ {
				for id := range 5 {
					h := aired([2]int{1, a}, [2]int{id, b}, [2]int{3, c})
					want := (id == 1 || id == 3) && 0 <= a && a < b && b < c
					if got := rota.ValidHistory(r, h); got != want {
						t.Errorf("ValidHistory(%v) = %v", h, got)
					}
				}
			}
		}
	}
}

// P11.1: Breaches and Allowed

func TestBreachesOfExamples(t *testing.T) {
	r, h := example()
	for _, x := range []struct {
		x    api.Aired
		want []api.Breach
	}{
		{api.Aired{Item: 1, At: 400}, []api.Breach{{Rule: 0, With: 0}, {Rule: 2, With: -1}}},
		{api.Aired{Item: 1, At: 250}, []api.Breach{{Rule: 0, With: 0}, {Rule: 1, With: 0}, {Rule: 2, With: -1}}},
		{api.Aired{Item: 2, At: 299}, []api.Breach{{Rule: 1, With: 0}}},
		{api.Aired{Item: 2, At: 300}, nil},
		{api.Aired{Item: 3, At: 1199}, []api.Breach{{Rule: 0, With: 1}, {Rule: 2, With: -1}}},
		{api.Aired{Item: 3, At: 1200}, []api.Breach{{Rule: 2, With: -1}}},
	} {
		if got := rota.Breaches(r, h, x.x); !slices.Equal(got, x.want) {
			t.Errorf("Breaches(%v) = %v; want %v", x.x, got, x.want)
		}
		checkBreaches(t, r, h, x.x)
	}
}

func TestSongsThatDoNotFollowHaveNoBreaches(t *testing.T) {
	r, h := example()
	for _, n := range extremes {
		checkBreaches(t, r, h, api.Aired{Item: n, At: 201})
		checkBreaches(t, r, nil, api.Aired{Item: n, At: 0})
		checkBreaches(t, r, h, api.Aired{Item: 1, At: n})
		checkBreaches(t, r, nil, api.Aired{Item: 2, At: n})
		for _, m := range extremes {
			x := api.Aired{Item: n, At: m}
			if !definedToFollow(r, h, x) && (rota.Allowed(r, h, x) || len(rota.Breaches(r, h, x)) != 0) {
				t.Errorf("%v is allowed or has breaches", x)
			}
		}
	}
	if rota.Allowed(r, h, api.Aired{Item: 2, At: 200}) || !rota.Allowed(r, h, api.Aired{Item: 2, At: 9999999}) {
		t.Error("a song at 200 is allowed, or one at 9999999 is not")
	}
}

func TestSongsAgreeInTheFieldOfTheRule(t *testing.T) {
	one := song(5, 7, 3, 2)
	for bits := range 8 {
		other := song(6, 8, 4, 3)
		if bits&1 != 0 {
			other.Artist = one.Artist
		}
		if bits&2 != 0 {
			other.Tempo = one.Tempo
		}
		if bits&4 != 0 {
			other.Language = one.Language
		}
		for field, agree := range map[int]bool{api.RItem: false, api.RArtist: bits&1 != 0, api.RTempo: bits&2 != 0, api.RLanguage: bits&4 != 0} {
			r := api.Rota{Items: []api.Item{one, other}, Rules: []api.Rule{{Field: field, Gap: 10}}}
			h := aired([2]int{5, 100})
			if got := rota.Allowed(r, h, api.Aired{Item: 6, At: 105}); got == agree {
				t.Errorf("the field %d of %v after %v: allowed is %v", field, other, one, got)
			}
			if rota.Allowed(r, h, api.Aired{Item: 5, At: 105}) || !rota.Allowed(r, h, api.Aired{Item: 5, At: 110}) {
				t.Errorf("the field %d of the same song", field)
			}
		}
	}
}

func TestGapsAreKeptToTheSecond(t *testing.T) {
	for _, gap := range []int{1, 2, 3, 59, 604799, 604800} {
		for _, from := range []int{0, 7, 9999999 - 604801} {
			for _, late := range []int{1, 2, 3, 4, 58, 59, 60, 604798, 604799, 604800, 604801} {
				r := api.Rota{Items: []api.Item{song(0, 0, 1, 1)}, Rules: []api.Rule{{Field: api.RItem, Gap: gap}}}
				if got := rota.Allowed(r, aired([2]int{0, from}), api.Aired{Item: 0, At: from + late}); got != (late >= gap) {
					t.Errorf("%d seconds after a song, with the gap %d: allowed is %v", late, gap, got)
				}
			}
		}
	}
}

func TestQuotasCountTheLastSongs(t *testing.T) {
	for bits := range 1 << 6 {
		var h []api.Aired
		for k := range 5 {
			h = append(h, api.Aired{Item: bits >> k & 1, At: k})
		}
		x := api.Aired{Item: bits >> 5 & 1, At: 5}
		for count := range 6 {
			for of := 1; of <= 7; of++ {
				for least := 0; least <= of; least++ {
					r := api.Rota{
						Items:  []api.Item{song(0, 0, 1, 1), song(1, 0, 1, 4)},
						Quotas: []api.Quota{{Language: 4, Of: of, Least: least}},
					}
					checkBreaches(t, r, h[5-count:], x)
				}
			}
		}
	}
}

func TestAQuotaOfOneSongIsForEachSong(t *testing.T) {
	r := api.Rota{Items: []api.Item{song(0, 0, 1, 1), song(1, 0, 1, 2)}, Quotas: []api.Quota{{Language: 2, Of: 1, Least: 1}}}
	for _, h := range [][]api.Aired{nil, aired([2]int{1, 0}), aired([2]int{1, 0}, [2]int{1, 1})} {
		if !rota.Allowed(r, h, api.Aired{Item: 1, At: 9}) || rota.Allowed(r, h, api.Aired{Item: 0, At: 9}) {
			t.Errorf("after %v", h)
		}
	}
}

func TestBreachesOfSmallRotas(t *testing.T) {
	items := []api.Item{song(0, 1, 1, 1), song(1, 1, 2, 2), song(2, 2, 2, 1)}
	var histories [][]api.Aired
	var extend func(h []api.Aired, at int)
	extend = func(h []api.Aired, at int) {
		histories = append(histories, h)
		if len(h) == 3 {
			return
		}
		for id := range 3 {
			for step := range 2 {
				extend(append(slices.Clone(h), api.Aired{Item: id, At: at + step}), at+step+1)
			}
		}
	}
	extend(nil, 0)
	for field := 1; field <= 4; field++ {
		for gap := 1; gap <= 4; gap++ {
			for of := 1; of <= 3; of++ {
				r := api.Rota{
					Items:  items,
					Rules:  []api.Rule{{Field: field, Gap: gap}, {Field: 5 - field, Gap: 2}},
					Quotas: []api.Quota{{Language: 1, Of: of, Least: of / 2}, {Language: 2, Of: 2, Least: 1}},
				}
				for _, h := range histories {
					for late := range 3 {
						checkCase(t, r, h, 3+len(h)+late, []int{2, 0, 1})
					}
				}
			}
		}
	}
}

func TestBreachesOfAnyRota(t *testing.T) {
	random := rand.New(rand.NewSource(1))
	for range 3000 {
		r := anyRota(random, 1+random.Intn(12))
		h, at := anyHistory(random, r, random.Intn(61))
		if !rota.Valid(r) || !rota.ValidHistory(r, h) {
			t.Fatalf("%v or %v is not valid", r, h)
		}
		for _, i := range r.Items {
			checkBreaches(t, r, h, api.Aired{Item: i.ID, At: at})
		}
	}
}

func TestBreachesOfAFullRota(t *testing.T) {
	random := rand.New(rand.NewSource(2))
	r := full()
	for count := range 61 {
		h, at := anyHistory(random, r, count)
		checkCase(t, r, h, at, anyRanking(random, r, 20))
	}
	for k := range r.Rules {
		r.Rules[k] = api.Rule{Field: 1 + k%4, Gap: api.WeekSeconds}
	}
	var h []api.Aired
	for k := range 60 {
		h = append(h, api.Aired{Item: 100, At: k})
	}
	if got := rota.Breaches(r, h, api.Aired{Item: 100, At: 60}); len(got) != 8*60+3 {
		t.Errorf("the same song for the 61st time has %d breaches", len(got))
	}
}

// P11.1: Recent

func TestRecentOfExamples(t *testing.T) {
	r, h := example()
	for _, x := range []struct {
		h        []api.Aired
		at, want int
	}{
		{h, 1000, 0},
		{h, 1300, 0},
		{h, 200, 0},
		{append(h, aired([2]int{2, 900})...), 999, 0},
		{append(h, aired([2]int{2, 900})...), 1000, 1},
		{append(h, aired([2]int{2, 900})...), 1200, 1},
		{append(h, aired([2]int{2, 900}, [2]int{3, 901})...), 1199, 1},
		{append(h, aired([2]int{2, 900}, [2]int{3, 901})...), 1200, 2},
		{append(h, aired([2]int{2, 900}, [2]int{3, 901})...), 9999999, 2},
		{append(h, aired([2]int{2, 900}, [2]int{3, 901})...), 10000000, 0},
	} {
		if got := rota.Recent(r, x.h, x.at); got != x.want {
			t.Errorf("Recent(%v, %d) = %d; want %d", x.h, x.at, got, x.want)
		}
		checkRecent(t, r, x.h, x.at)
	}
}

func TestRecentWithoutRulesOrQuotas(t *testing.T) {
	r, _ := example()
	h := aired([2]int{1, 0}, [2]int{2, 500}, [2]int{3, 600}, [2]int{1, 2000})
	for _, x := range []struct {
		rules, quotas bool
		want          int
	}{{false, false, 4}, {false, true, 2}, {true, false, 3}, {true, true, 2}} {
		r := r
		if !x.rules {
			r.Rules = nil
		}
		if !x.quotas {
			r.Quotas = nil
		}
		if got := rota.Recent(r, h, 2001); got != x.want {
			t.Errorf("with rules: %v, with quotas: %v: %d; want %d", x.rules, x.quotas, got, x.want)
		}
	}
	r.Quotas[0].Least = 0 // a quota that cannot be missed counts as well
	if got := rota.Recent(r, h, 9000); got != 2 {
		t.Errorf("with a quota of none: %d", got)
	}
}

func TestRecentChecksItsSecond(t *testing.T) {
	r, h := example()
	r.Quotas = nil
	for _, h := range [][]api.Aired{nil, h, aired([2]int{1, 9999998}), aired([2]int{1, 9999999})} {
		for _, at := range extremes {
			checkRecent(t, r, h, at)
			checkRecent(t, api.Rota{Items: r.Items}, h, at)
		}
	}
}

func TestRecentOfAnyHistory(t *testing.T) {
	random := rand.New(rand.NewSource(3))
	for range 4000 {
		r := anyRota(random, 1+random.Intn(5))
		h, at := anyHistory(random, r, random.Intn(61))
		for range 4 {
			checkRecent(t, r, h, at)
			at += random.Intn(400)
		}
	}
}

// P11.1: results and arguments

// cloneRota returns r in new memory.
func cloneRota(r api.Rota) api.Rota {
	r.Items, r.Rules, r.Quotas = slices.Clone(r.Items), slices.Clone(r.Rules), slices.Clone(r.Quotas)
	for k := range r.Items {
		r.Items[k].Trims, r.Items[k].Talks = slices.Clone(r.Items[k].Trims), slices.Clone(r.Items[k].Talks)
	}
	return r
}

// withSpare returns l with the spare capacity of some elements with, and all of that.
func withSpare[T any](l []T, with T) ([]T, []T) {
	all := append(slices.Clone(l), with, with, with)
	return all[:len(l)], all
}

func TestArgumentsAreNotChanged(t *testing.T) {
	random := rand.New(rand.NewSource(4))
	for range 500 {
		r := anyRota(random, 1+random.Intn(8))
		h, at := anyHistory(random, r, random.Intn(12))
		ranked := anyRanking(random, r, 8)
		spans := anySpans(random, r, random.Intn(90))
		var items []api.Item
		var rules []api.Rule
		var quotas []api.Quota
		r.Items, items = withSpare(r.Items, api.Item{ID: -7})
		r.Rules, rules = withSpare(r.Rules, api.Rule{Field: -7})
		r.Quotas, quotas = withSpare(r.Quotas, api.Quota{Of: -7})
		h, allAired := withSpare(h, api.Aired{Item: -7})
		ranked, allRanked := withSpare(ranked, -7)
		spans, allSpans := withSpare(spans, api.Span{Owner: -7})
		before := cloneRota(api.Rota{Items: items, Rules: rules, Quotas: quotas})
		airedBefore, rankedBefore, spansBefore := slices.Clone(allAired), slices.Clone(allRanked), slices.Clone(allSpans)
		checkCase(t, r, h, at, ranked)
		checkHeard(t, r, spans)
		_, proof, _ := rota.Pick(r, h, at, ranked)
		proof, allProof := withSpare(proof, api.Breach{Rule: -7})
		proofBefore := slices.Clone(allProof)
		for index := -1; index <= len(ranked); index++ {
			checkCheck(t, r, h, at, ranked, index, proof)
		}
		after := api.Rota{Items: items, Rules: rules, Quotas: quotas}
		if !reflect.DeepEqual(cloneRota(after), before) || !slices.Equal(allAired, airedBefore) || !slices.Equal(allRanked, rankedBefore) || !slices.Equal(allSpans, spansBefore) || !slices.Equal(allProof, proofBefore) {
			t.Fatalf("arguments were changed: %v, %v, %v, %v", before, airedBefore, rankedBefore, spansBefore)
		}
	}
}

// spoil overwrites l and its spare capacity.
func spoil[T any](l []T, with T) {
	l = l[:cap(l)]
	for k := range l {
		l[k] = with
	}
}

func TestResultsAreNewMemory(t *testing.T) {
	random := rand.New(rand.NewSource(5))
	for range 500 {
		r := anyRota(random, 1+random.Intn(8))
		h, at := anyHistory(random, r, random.Intn(12))
		ranked := anyRanking(random, r, 8)
		spans := anySpans(random, r, random.Intn(200))
		before, airedBefore, rankedBefore, spansBefore := cloneRota(r), slices.Clone(h), slices.Clone(ranked), slices.Clone(spans)
		spoil(rota.Breaches(r, h, api.Aired{Item: ranked[0], At: at}), api.Breach{})
		_, proof, _ := rota.Pick(r, h, at, ranked)
		spoil(proof, api.Breach{})
		spoil(rota.Heard(r, spans), api.Aired{})
		if !reflect.DeepEqual(cloneRota(r), before) || !slices.Equal(h, airedBefore) || !slices.Equal(ranked, rankedBefore) || !slices.Equal(spans, spansBefore) {
			t.Fatalf("a result shares memory with an argument: %v, %v, %v, %v", before, airedBefore, rankedBefore, spansBefore)
		}
		checkCase(t, r, h, at, ranked)
		checkHeard(t, r, spans)
	}
}

func FuzzRota(f *testing.F) {
	f.Add(1, 1, 1, 3, 2, 1, 1, 1000, 2, 300, 2, 3, 1, 1, 0, 3, 200, 250, 1, 3, 1, 0)
	f.Add(0, 99, 4, 199, 0, 1, 4, 604800, 3, 1, 4, 60, 60, 199, 0, 0, 9999998, 9999999, 199, 0, 0, -1)
	f.Add(-1, 0, 0, 0, 0, 0, 0, 0, 0, 0, 0, 0, 0, 0, 0, 0, 0, 0, 0, 0, -1, -1)
	f.Fuzz(func(t *testing.T, id1, artist1, language1, id2, artist2, language2, field1, gap1, field2, gap2, language, of, least, item1, at1, item2, at2, at, ranked1, ranked2, index, with int) {
		r := api.Rota{
			Items:  []api.Item{song(id1, artist1, 1, language1), song(id2, artist2, 1, language2)},
			Rules:  []api.Rule{{Field: field1, Gap: gap1}, {Field: field2, Gap: gap2}},
			Quotas: []api.Quota{{Language: language, Of: of, Least: least}},
		}
		h := aired([2]int{item1, at1}, [2]int{item2, at2})
		ranked := []int{ranked1, ranked2}
		checkCase(t, r, h, at, ranked)
		checkCheck(t, r, h, at, ranked, index, []api.Breach{{Rule: 0, With: with}})
		checkHeard(t, r, []api.Span{{From: at1, To: at2, Owner: item1 + 1}, {From: at2, To: at, Owner: item2 + 1}})
		if !definedAsRota(r) {
			refusesRota(t, r)
		}
	})
}
