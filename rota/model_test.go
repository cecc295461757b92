package rota_test

import (
	"math"
	"math/rand"
	"slices"
	"testing"

	"aircheck/api"
	"aircheck/item"
	"aircheck/rota"
)

// This file has what the tests share: the chapter's words as slow functions, rotas, histories, rankings and spans to try, and checks against those words.

// definedAsRota reports whether r is valid in the words of the chapter.
func definedAsRota(r api.Rota) bool {
	if len(r.Items) > 200 || len(r.Rules) > 8 || len(r.Quotas) > 4 {
		return false
	}
	last := -1
	for _, i := range r.Items {
		if !item.Valid(i) || i.Kind != api.KSong || i.ID <= last {
			return false
		}
		last = i.ID
	}
	for _, rule := range r.Rules {
		if rule.Field < 1 || rule.Field > 4 || rule.Gap < 1 || rule.Gap > 604800 {
			return false
		}
	}
	for _, quota := range r.Quotas {
		if quota.Language < 1 || quota.Language > 4 || quota.Of < 1 || quota.Of > 60 || quota.Least < 0 || quota.Least > quota.Of {
			return false
		}
	}
	return true
}

// songWith returns the item of r with this ID, and whether there is one.
func songWith(r api.Rota, id int) (api.Item, bool) {
	for _, i := range r.Items {
		if i.ID == id {
			return i, true
		}
	}
	return api.Item{}, false
}

// definedAsHistory reports whether r is valid and history is one for it.
func definedAsHistory(r api.Rota, history []api.Aired) bool {
	if !definedAsRota(r) || len(history) > 60 {
		return false
	}
	for k, x := range history {
		if !definedToFollow(r, history[:k], x) {
			return false
		}
	}
	return true
}

// definedToFollow reports whether x follows history, which is one for the valid r.
func definedToFollow(r api.Rota, history []api.Aired, x api.Aired) bool {
	_, ok := songWith(r, x.Item)
	return ok && definedAsNext(history, x.At)
}

// definedAsNext reports whether a song with this At follows history.
func definedAsNext(history []api.Aired, at int) bool {
	for _, before := range history {
		if at <= before.At {
			return false
		}
	}
	return at >= 0 && at <= 9999999
}

// definedToAgree reports whether a and b agree in the field.
func definedToAgree(field int, a, b api.Item) bool {
	switch field {
	case api.RItem:
		return a.ID == b.ID
	case api.RArtist:
		return a.Artist == b.Artist
	case api.RTempo:
		return a.Tempo == b.Tempo
	default:
		return a.Language == b.Language
	}
}

// definedBreaches returns the breaches of x, none if the history is no history or x does not follow it.
func definedBreaches(r api.Rota, history []api.Aired, x api.Aired) []api.Breach {
	if !definedAsHistory(r, history) || !definedToFollow(r, history, x) {
		return nil
	}
	song, _ := songWith(r, x.Item)
	var out []api.Breach
	for index, rule := range r.Rules {
		for with, before := range history {
			other, _ := songWith(r, before.Item)
			if definedToAgree(rule.Field, song, other) && before.At+rule.Gap > x.At {
				out = append(out, api.Breach{Rule: index, With: with})
			}
		}
	}
	for index, quota := range r.Quotas {
		run := append(slices.Clone(history), x)
		if len(run) < quota.Of {
			continue
		}
		if inLanguage(r, run[len(run)-quota.Of:], quota.Language) < quota.Least {
			out = append(out, api.Breach{Rule: len(r.Rules) + index, With: -1})
		}
	}
	return out
}

// inLanguage returns how many of the songs have the language.
func inLanguage(r api.Rota, songs []api.Aired, language int) int {
	n := 0
	for _, x := range songs {
		if i, _ := songWith(r, x.Item); i.Language == language {
			n++
		}
	}
	return n
}

// definedToBeAllowed reports whether x follows history and is allowed.
func definedToBeAllowed(r api.Rota, history []api.Aired, x api.Aired) bool {
	return definedAsHistory(r, history) && definedToFollow(r, history, x) && len(definedBreaches(r, history, x)) == 0
}

// definedAsReady reports whether Pick returns no error.
func definedAsReady(r api.Rota, history []api.Aired, at int, ranked []int) bool {
	if !definedAsHistory(r, history) || !definedAsNext(history, at) || len(ranked) > 20 {
		return false
	}
	for k, id := range ranked {
		if _, ok := songWith(r, id); !ok {
			return false
		}
		for _, other := range ranked[:k] {
			if other == id {
				return false
			}
		}
	}
	return true
}

// definedPick returns what Pick has to return.
func definedPick(r api.Rota, history []api.Aired, at int, ranked []int) (int, []api.Breach, api.Errno) {
	if !definedAsReady(r, history, at, ranked) {
		return 0, nil, api.ErrRota
	}
	index := slices.IndexFunc(ranked, func(id int) bool {
		return definedToBeAllowed(r, history, api.Aired{Item: id, At: at})
	})
	var proof []api.Breach
	for k, id := range ranked {
		if index == -1 || k < index {
			proof = append(proof, definedBreaches(r, history, api.Aired{Item: id, At: at})[0])
		}
	}
	return index, proof, api.OK
}

// definedCheck reports what Check has to report.
func definedCheck(r api.Rota, history []api.Aired, at int, ranked []int, index int, proof []api.Breach) bool {
	if !definedAsReady(r, history, at, ranked) || index < -1 || index > len(ranked)-1 {
		return false
	}
	before := index
	if index == -1 {
		before = len(ranked)
	} else if !definedToBeAllowed(r, history, api.Aired{Item: ranked[index], At: at}) {
		return false
	}
	if len(proof) != before {
		return false
	}
	for k, b := range proof {
		if !slices.Contains(definedBreaches(r, history, api.Aired{Item: ranked[k], At: at}), b) {
			return false
		}
	}
	return true
}

// definedRecent returns what Recent has to return.
func definedRecent(r api.Rota, history []api.Aired, at int) int {
	if !definedAsHistory(r, history) || !definedAsNext(history, at) {
		return 0
	}
	for n := len(history); n > 0; n-- {
		if playNoPart(r, history, n, at) {
			return n
		}
	}
	return 0
}

// playNoPart reports whether the first n songs of history are behind all gaps, and enough songs for all quotas are left.
func playNoPart(r api.Rota, history []api.Aired, n, at int) bool {
	for _, rule := range r.Rules {
		for _, x := range history[:n] {
			if x.At+rule.Gap > at {
				return false
			}
		}
	}
	for _, quota := range r.Quotas {
		if len(history)-n < quota.Of-1 {
			return false
		}
	}
	return true
}

// definedAsSpans reports whether spans are valid.
func definedAsSpans(spans []api.Span) bool {
	if len(spans) > 200 {
		return false
	}
	for k, s := range spans {
		if s.From < 0 || s.To <= s.From || s.To > 10000000 || k > 0 && s.From < spans[k-1].To {
			return false
		}
	}
	return true
}

// ownerAt returns the owner of a second, and whether a span has it.
func ownerAt(spans []api.Span, at int) (int, bool) {
	for _, s := range spans {
		if s.From <= at && at < s.To {
			return s.Owner, true
		}
	}
	return 0, false
}

// definedHeard returns what Heard has to return: of the seconds at which spans begin, those that have a song as owner that the second before does not have.
func definedHeard(r api.Rota, spans []api.Span) []api.Aired {
	if !definedAsRota(r) || !definedAsSpans(spans) {
		return nil
	}
	var out []api.Aired
	for _, s := range spans {
		before, ok := ownerAt(spans, s.From-1)
		for _, i := range r.Items {
			if s.Owner == i.ID+1 && (!ok || before != s.Owner) {
				out = append(out, api.Aired{Item: i.ID, At: s.From})
			}
		}
	}
	if len(out) > 60 {
		out = out[len(out)-60:]
	}
	return out
}

// keepsRules reports whether any two songs of history that agree in the field of a rule are at least its Gap apart, and of any Of songs that follow each other at least Least have the language of a quota.
func keepsRules(r api.Rota, history []api.Aired) bool {
	for _, rule := range r.Rules {
		for k, x := range history {
			for _, y := range history[:k] {
				a, _ := songWith(r, x.Item)
				b, _ := songWith(r, y.Item)
				if definedToAgree(rule.Field, a, b) && x.At-y.At < rule.Gap {
					return false
				}
			}
		}
	}
	for _, quota := range r.Quotas {
		for k := 0; k+quota.Of <= len(history); k++ {
			if inLanguage(r, history[k:k+quota.Of], quota.Language) < quota.Least {
				return false
			}
		}
	}
	return true
}

// song returns a song.
func song(id, artist, tempo, language int) api.Item {
	return api.Item{ID: id, Kind: api.KSong, Length: 180, Artist: artist, Tempo: tempo, Language: language}
}

// aired returns songs from pairs of an ID and a second.
func aired(pairs ...[2]int) []api.Aired {
	var out []api.Aired
	for _, p := range pairs {
		out = append(out, api.Aired{Item: p[0], At: p[1]})
	}
	return out
}

// example returns the rota and the history of the chapter's examples.
func example() (api.Rota, []api.Aired) {
	return api.Rota{
		Items:  []api.Item{song(1, 1, 1, 1), song(2, 1, 1, 2), song(3, 2, 1, 1)},
		Rules:  []api.Rule{{Field: api.RItem, Gap: 1000}, {Field: api.RArtist, Gap: 300}},
		Quotas: []api.Quota{{Language: 2, Of: 3, Least: 1}},
	}, aired([2]int{1, 0}, [2]int{3, 200})
}

// full returns a rota with as many items, rules and quotas as there may be.
func full() api.Rota {
	var r api.Rota
	for id := range 200 {
		r.Items = append(r.Items, song(id, id%100, 1+id%5, 1+id%4))
	}
	for k := range 8 {
		r.Rules = append(r.Rules, api.Rule{Field: 1 + k%4, Gap: 1 + 86399*k})
	}
	for k := range 4 {
		r.Quotas = append(r.Quotas, api.Quota{Language: 1 + k, Of: 60, Least: k})
	}
	return r
}

// numbers returns pointers to the numbers of the rota, but for those of spells.
func numbers(r *api.Rota) []*int {
	var out []*int
	for k := range r.Items {
		i := &r.Items[k]
		out = append(out, &i.ID, &i.Kind, &i.Length, &i.Artist, &i.Tempo, &i.Language)
	}
	for k := range r.Rules {
		out = append(out, &r.Rules[k].Field, &r.Rules[k].Gap)
	}
	for k := range r.Quotas {
		out = append(out, &r.Quotas[k].Language, &r.Quotas[k].Of, &r.Quotas[k].Least)
	}
	return out
}

// extremes are numbers around every bound of a rota, a history, a ranking and spans, and far from them.
var extremes = []int{math.MinInt, math.MinInt + 1, -1 << 62, -1 << 32, -1<<32 + 1, -1 << 31, -10000000, -604800, -200, -60, -2, -1, 0, 1, 2, 3, 4, 5, 6, 19, 20, 21, 59, 60, 61, 99, 100, 101, 199, 200, 201, 203, 249, 250, 299, 300, 999, 1000, 1001, 1200, 3600, 3601, 604799, 604800, 604801, 9999999, 10000000, 10000001, 1 << 31, 1 << 32, 1<<32 + 1, 1<<62 - 1, 1 << 62, math.MaxInt - 1, math.MaxInt}

// anyRota returns a valid rota with this many songs, few artists, and some rules and quotas.
func anyRota(random *rand.Rand, songs int) api.Rota {
	var out api.Rota
	ids := random.Perm(200)[:songs]
	slices.Sort(ids)
	artists, tempos, languages := 1+random.Intn(6), 1+random.Intn(5), 1+random.Intn(4)
	for _, id := range ids {
		i := song(id, random.Intn(artists), 1+random.Intn(tempos), 1+random.Intn(languages))
		if random.Intn(4) == 0 {
			i.Trims, i.Talks = []api.Spell{{From: 3, To: 9}}, []api.Spell{{From: 0, To: 20}}
		}
		out.Items = append(out.Items, i)
	}
	for range random.Intn(5) {
		out.Rules = append(out.Rules, api.Rule{Field: 1 + random.Intn(4), Gap: 1 + random.Intn([]int{3, 20, 100, 300, 604800}[random.Intn(5)])})
	}
	for range random.Intn(4) {
		of := 1 + random.Intn([]int{2, 6, 60}[random.Intn(3)])
		out.Quotas = append(out.Quotas, api.Quota{Language: 1 + random.Intn(4), Of: of, Least: random.Intn(of+1) / (1 + random.Intn(3))})
	}
	return out
}

// anyID returns the ID of a song of the rota.
func anyID(random *rand.Rand, r api.Rota) int {
	return r.Items[random.Intn(len(r.Items))].ID
}

// anyHistory returns a history of this many songs, and a second at which another song can begin.
func anyHistory(random *rand.Rand, r api.Rota, count int) ([]api.Aired, int) {
	var out []api.Aired
	step := []int{1, 5, 40, 400}[random.Intn(4)]
	at := random.Intn(step)
	if len(r.Items) == 0 {
		return nil, at
	}
	for range count {
		out = append(out, api.Aired{Item: anyID(random, r), At: at})
		at += 1 + random.Intn(step)
	}
	if random.Intn(8) == 0 {
		late := api.MaxTime - 1 - at
		for k := range out {
			out[k].At += late
		}
		at += late
	}
	return out, at
}

// anyRanking returns some of the songs of the rota, at most count.
func anyRanking(random *rand.Rand, r api.Rota, count int) []int {
	var out []int
	for _, k := range random.Perm(len(r.Items)) {
		if len(out) < count {
			out = append(out, r.Items[k].ID)
		}
	}
	return out
}

// anyOwner returns an owner, often a song of the rota.
func anyOwner(random *rand.Rand, r api.Rota) int {
	others := []int{-1, 0, 1, 200, 201, 1000, 2000, 2999, math.MinInt, math.MaxInt}
	if random.Intn(3) == 0 || len(r.Items) == 0 {
		return others[random.Intn(len(others))]
	}
	if random.Intn(6) == 0 {
		return 1 + random.Intn(200)
	}
	return 1 + r.Items[random.Intn(min(len(r.Items), 3))].ID
}

// anySpans returns valid spans, of which many end where the next one begins.
func anySpans(random *rand.Rand, r api.Rota, count int) []api.Span {
	var out []api.Span
	at := random.Intn(3)
	for range count {
		if random.Intn(4) == 0 {
			at += random.Intn(3)
		}
		to := at + 1 + random.Intn(4)
		out = append(out, api.Span{From: at, To: to, Owner: anyOwner(random, r)})
		at = to
	}
	return out
}

// checkBreaches fails unless Breaches and Allowed say of x what the chapter says, whatever the arguments are.
func checkBreaches(t testing.TB, r api.Rota, history []api.Aired, x api.Aired) {
	t.Helper()
	want := definedBreaches(r, history, x)
	if got := rota.Breaches(r, history, x); !slices.Equal(got, want) {
		t.Fatalf("Breaches(%v, %v, %v) = %v; want %v", r, history, x, got, want)
	}
	if got := rota.Allowed(r, history, x); got != definedToBeAllowed(r, history, x) {
		t.Fatalf("Allowed(%v, %v, %v) = %v", r, history, x, got)
	}
}

// checkPick fails unless Pick returns what the chapter says, whatever the arguments are, and Check accepts that unless it is an error. It returns what Pick returns.
func checkPick(t testing.TB, r api.Rota, history []api.Aired, at int, ranked []int) (int, []api.Breach) {
	t.Helper()
	want, proof, e := definedPick(r, history, at, ranked)
	index, got, err := rota.Pick(r, history, at, ranked)
	if index != want || !slices.Equal(got, proof) || err != e {
		t.Fatalf("Pick(%v, %v, %d, %v) = %d, %v, %d; want %d, %v, %d", r, history, at, ranked, index, got, err, want, proof, e)
	}
	if rota.Check(r, history, at, ranked, index, got) != (e == api.OK) {
		t.Fatalf("Check(%v, %v, %d, %v) of %d, %v = %v", r, history, at, ranked, index, got, e != api.OK)
	}
	return index, got
}

// checkCheck fails unless Check reports what the chapter says, whatever the arguments are.
func checkCheck(t testing.TB, r api.Rota, history []api.Aired, at int, ranked []int, index int, proof []api.Breach) {
	t.Helper()
	if got := rota.Check(r, history, at, ranked, index, proof); got != definedCheck(r, history, at, ranked, index, proof) {
		t.Fatalf("Check(%v, %v, %d, %v, %d, %v) = %v", r, history, at, ranked, index, proof, got)
	}
}

// checkRecent fails unless Recent returns what the chapter says, whatever the arguments are.
func checkRecent(t testing.TB, r api.Rota, history []api.Aired, at int) {
	t.Helper()
	if got, want := rota.Recent(r, history, at), definedRecent(r, history, at); got != want {
		t.Fatalf("Recent(%v, %v, %d) = %d; want %d", r, history, at, got, want)
	}
}

// checkHeard fails unless Heard returns what the chapter says, whatever the arguments are. It returns what Heard returns.
func checkHeard(t testing.TB, r api.Rota, spans []api.Span) []api.Aired {
	t.Helper()
	got, want := rota.Heard(r, spans), definedHeard(r, spans)
	if !slices.Equal(got, want) {
		t.Fatalf("Heard(%v, %v) = %v; want %v", r, spans, got, want)
	}
	return got
}

// checkCase fails unless all functions but Heard do what the chapter says for these arguments, whatever they are.
func checkCase(t testing.TB, r api.Rota, history []api.Aired, at int, ranked []int) {
	t.Helper()
	if rota.Valid(r) != definedAsRota(r) || rota.ValidHistory(r, history) != definedAsHistory(r, history) {
		t.Fatalf("Valid(%v) = %v, ValidHistory of %v = %v", r, rota.Valid(r), history, rota.ValidHistory(r, history))
	}
	for _, id := range ranked {
		checkBreaches(t, r, history, api.Aired{Item: id, At: at})
	}
	checkPick(t, r, history, at, ranked)
	checkRecent(t, r, history, at)
}

// refusesRota fails unless all functions refuse r, which is not valid.
func refusesRota(t testing.TB, r api.Rota) {
	t.Helper()
	if rota.Valid(r) {
		t.Errorf("%v is valid", r)
	}
	var ids []int
	for _, i := range r.Items[:min(len(r.Items), 3)] {
		ids = append(ids, i.ID)
	}
	refusesHistory(t, r, nil, 500, ids)
	for _, id := range ids {
		refusesHistory(t, r, aired([2]int{id, 100}), 500, ids)
		if got := rota.Heard(r, []api.Span{{From: 0, To: 9, Owner: id + 1}, {From: 9, To: 10, Owner: 0}}); len(got) != 0 {
			t.Errorf("Heard(%v) = %v", r, got)
		}
	}
}

// refusesHistory fails unless all functions refuse history, of which ids may be songs that follow it at at.
func refusesHistory(t testing.TB, r api.Rota, history []api.Aired, at int, ids []int) {
	t.Helper()
	if rota.ValidHistory(r, history) {
		t.Errorf("%v is a history for %v", history, r)
	}
	for _, id := range ids {
		x := api.Aired{Item: id, At: at}
		if got := rota.Breaches(r, history, x); len(got) != 0 || rota.Allowed(r, history, x) {
			t.Errorf("Breaches(%v, %v, %v) = %v", r, history, x, got)
		}
		refusesPick(t, r, history, at, []int{id})
	}
	refusesPick(t, r, history, at, nil)
	refusesPick(t, r, history, at, ids)
	if got := rota.Recent(r, history, at); got != 0 {
		t.Errorf("Recent(%v, %v, %d) = %d", r, history, at, got)
	}
}

// refusesPick fails unless Pick and Check refuse their arguments.
func refusesPick(t testing.TB, r api.Rota, history []api.Aired, at int, ranked []int) {
	t.Helper()
	if index, proof, e := rota.Pick(r, history, at, ranked); index != 0 || len(proof) != 0 || e != api.ErrRota {
		t.Errorf("Pick(%v, %v, %d, %v) = %d, %v, %d", r, history, at, ranked, index, proof, e)
	}
	for index := -2; index <= min(len(ranked), 3); index++ {
		for _, proof := range [][]api.Breach{nil, {{}}, {{Rule: 0, With: -1}}, make([]api.Breach, len(ranked))} {
			if rota.Check(r, history, at, ranked, index, proof) {
				t.Errorf("Check(%v, %v, %d, %v, %d, %v) is true", r, history, at, ranked, index, proof)
			}
		}
	}
}
