package rota_test

import (
	"math/rand"
	"slices"
	"testing"

	"aircheck/api"
	"aircheck/rota"
)

// P11.1: Pick and Check

func TestPickOfExamples(t *testing.T) {
	r, h := example()
	for _, x := range []struct {
		at     int
		ranked []int
		want   int
		proof  []api.Breach
	}{
		{250, []int{1, 2, 3}, -1, []api.Breach{{Rule: 0, With: 0}, {Rule: 1, With: 0}, {Rule: 0, With: 1}}},
		{300, []int{3, 2, 1}, 1, []api.Breach{{Rule: 0, With: 1}}},
		{300, []int{2, 3, 1}, 0, nil},
		{300, nil, -1, nil},
		{300, []int{}, -1, nil},
		{9999999, []int{3, 1}, -1, []api.Breach{{Rule: 2, With: -1}, {Rule: 2, With: -1}}},
		{9999999, []int{3, 1, 2}, 2, []api.Breach{{Rule: 2, With: -1}, {Rule: 2, With: -1}}},
	} {
		index, proof := checkPick(t, r, h, x.at, x.ranked)
		if index != x.want || !slices.Equal(proof, x.proof) {
			t.Errorf("Pick(%d, %v) = %d, %v; want %d, %v", x.at, x.ranked, index, proof, x.want, x.proof)
		}
	}
}

func TestRankingsAreChecked(t *testing.T) {
	r, h := example()
	for _, n := range extremes {
		for place := range 3 {
			ranked := []int{3, 2, 1}
			ranked[place] = n
			checkPick(t, r, h, 300, ranked)
			if !definedAsReady(r, h, 300, ranked) {
				refusesPick(t, r, h, 300, ranked)
			}
		}
	}
	for _, ranked := range [][]int{{1, 1}, {2, 2}, {2, 3, 2}, {2, 1, 1}, {2, 0}, {2, 4}, {-1}} {
		refusesPick(t, r, h, 300, ranked) // also where a song is allowed before the wrong one
	}
}

func TestRankingsAreLimited(t *testing.T) {
	random := rand.New(rand.NewSource(1))
	r := full()
	for count := range 40 {
		ranked := anyRanking(random, r, count)
		checkPick(t, r, nil, 0, ranked)
		if count > 20 {
			refusesPick(t, r, nil, 0, ranked)
		}
	}
	refusesPick(t, r, nil, 0, anyRanking(random, r, 200))
	refusesPick(t, r, nil, 0, slices.Repeat([]int{5}, 100000))
}

func TestSecondsOfChoicesAreChecked(t *testing.T) {
	r, h := example()
	for _, at := range extremes {
		for _, h := range [][]api.Aired{nil, h, aired([2]int{1, 9999999})} {
			for _, ranked := range [][]int{nil, {2}, {3, 1}} {
				checkPick(t, r, h, at, ranked)
				if !definedAsNext(h, at) {
					refusesPick(t, r, h, at, ranked)
				}
			}
		}
	}
}

func TestCheckAcceptsOtherBreachesOfTheSameSong(t *testing.T) {
	r, h := example()
	all := rota.Breaches(r, h, api.Aired{Item: 1, At: 250})
	if len(all) != 3 {
		t.Fatalf("the song 1 has the breaches %v", all)
	}
	for _, b := range all {
		if !rota.Check(r, h, 250, []int{1}, -1, []api.Breach{b}) {
			t.Errorf("%v is not accepted", b)
		}
		for field, n := range []*int{&b.Rule, &b.With} {
			keep := *n
			for _, m := range extremes {
				*n = m
				if rota.Check(r, h, 250, []int{1}, -1, []api.Breach{b}) != slices.Contains(all, b) {
					t.Errorf("%v, with another number %d", b, field)
				}
			}
			*n = keep
		}
	}
}

func TestCheckCountsTheProof(t *testing.T) {
	r, h := example()
	proof := []api.Breach{{Rule: 0, With: 0}, {Rule: 1, With: 0}, {Rule: 0, With: 1}}
	for count := range 8 {
		long := slices.Repeat(proof, 3)[:count]
		if rota.Check(r, h, 250, []int{1, 2, 3}, -1, long) != (count == 3) {
			t.Errorf("%v is accepted, or not", long)
		}
		if rota.Check(r, h, 300, []int{3, 2, 1}, 1, []api.Breach{{Rule: 0, With: 1}, {}, {}, {}, {}, {}, {}, {}}[:count]) != (count == 1) {
			t.Errorf("a proof of %d is accepted, or not", count)
		}
	}
	if !rota.Check(r, h, 300, nil, -1, []api.Breach{}) || rota.Check(r, h, 300, nil, -1, proof[:1]) || rota.Check(r, h, 300, nil, 0, nil) {
		t.Error("an empty ranking")
	}
}

func TestCheckChecksTheIndex(t *testing.T) {
	r, h := example()
	for _, index := range extremes {
		for _, ranked := range [][]int{nil, {2}, {3, 2, 1}, {1, 3}} {
			for _, proof := range [][]api.Breach{nil, {{Rule: 0, With: 1}}, {{Rule: 0, With: 0}, {Rule: 0, With: 1}}} {
				checkCheck(t, r, h, 300, ranked, index, proof)
			}
		}
	}
}

// lists returns the lists of at most this many elements of l.
func lists[T any](l []T, most int) [][]T {
	out := [][]T{nil}
	for k := 0; k < len(out); k++ {
		if len(out[k]) < most {
			for _, x := range l {
				out = append(out, append(slices.Clone(out[k]), x))
			}
		}
	}
	return out
}

// P11.1 and P11.3

func TestAllSmallProofs(t *testing.T) {
	r, h := example()
	proofs := lists([]api.Breach{{Rule: 0, With: 0}, {Rule: 0, With: 1}, {Rule: 0, With: -1}, {Rule: 1, With: 0}, {Rule: 1, With: 1}, {Rule: 2, With: -1}, {Rule: 2, With: 0}}, 3)
	for _, ranked := range lists([]int{1, 2, 3}, 3) {
		for _, at := range []int{200, 250, 300, 1000, 1200} {
			want, _, e := rota.Pick(r, h, at, ranked)
			for index := -2; index <= 3; index++ {
				for _, proof := range proofs {
					checkCheck(t, r, h, at, ranked, index, proof)
					if rota.Check(r, h, at, ranked, index, proof) && (e != api.OK || index != want) {
						t.Fatalf("Check(%d, %v) accepts %d with %v; Pick returns %d, %d", at, ranked, index, proof, want, e)
					}
				}
			}
		}
	}
}

// anyProof returns breaches that may prove, for each of the songs, that it is not allowed: some of its breaches, sometimes another one.
func anyProof(random *rand.Rand, r api.Rota, h []api.Aired, at int, songs []int) []api.Breach {
	var out []api.Breach
	for _, id := range songs {
		b := api.Breach{Rule: random.Intn(6), With: random.Intn(len(h)+1) - 1}
		if all := rota.Breaches(r, h, api.Aired{Item: id, At: at}); len(all) > 0 && random.Intn(20) > 0 {
			b = all[random.Intn(len(all))]
		}
		out = append(out, b)
	}
	return out
}

func TestProofsOfAnyIndex(t *testing.T) {
	random := rand.New(rand.NewSource(2))
	accepted := map[bool]int{}
	for range 4000 {
		r := anyRota(random, 1+random.Intn(10))
		h, at := anyHistory(random, r, random.Intn(8))
		ranked := anyRanking(random, r, random.Intn(11))
		want, _ := checkPick(t, r, h, at, ranked)
		for index := -1; index < len(ranked); index++ {
			before := ranked
			if index >= 0 {
				before = ranked[:index]
			}
			proof := anyProof(random, r, h, at, before)
			checkCheck(t, r, h, at, ranked, index, proof)
			got := rota.Check(r, h, at, ranked, index, proof)
			accepted[got]++
			if got && index != want {
				t.Fatalf("Check(%v, %v, %d, %v) accepts %d with %v; Pick returns %d", r, h, at, ranked, index, proof, want)
			}
		}
	}
	if accepted[true] < 1000 || accepted[false] < 1000 {
		t.Errorf("accepted: %v", accepted)
	}
}

// P11.2

func TestThePickedSongIsTheFirstOneThatIsAllowed(t *testing.T) {
	random := rand.New(rand.NewSource(3))
	none, some := 0, 0
	for range 4000 {
		r := anyRota(random, 1+random.Intn(20))
		h, at := anyHistory(random, r, random.Intn(40))
		ranked := anyRanking(random, r, random.Intn(21))
		index, proof := checkPick(t, r, h, at, ranked)
		before := ranked
		if index == -1 {
			none++
		} else {
			some++
			before = ranked[:index]
			if !rota.Allowed(r, h, api.Aired{Item: ranked[index], At: at}) {
				t.Fatalf("Pick(%v, %v, %d, %v) = %d, which is not allowed", r, h, at, ranked, index)
			}
		}
		for k, id := range before {
			x := api.Aired{Item: id, At: at}
			if rota.Allowed(r, h, x) || rota.Breaches(r, h, x)[0] != proof[k] {
				t.Fatalf("Pick(%v, %v, %d, %v) = %d, %v, but the song %d is allowed or has another breach", r, h, at, ranked, index, proof, k)
			}
		}
		if len(before) != len(proof) || !rota.Check(r, h, at, ranked, index, proof) {
			t.Fatalf("Check refuses %d, %v", index, proof)
		}
	}
	if none < 200 || some < 200 {
		t.Errorf("%d picks of none, %d of a song", none, some)
	}
}

// P11.7

// picked returns the ID of the song that Pick returns, and whether there is one.
func picked(t *testing.T, r api.Rota, h []api.Aired, at int, ranked []int) (int, bool) {
	t.Helper()
	index, _, e := rota.Pick(r, h, at, ranked)
	if e != api.OK {
		t.Fatalf("Pick(%v, %v, %d, %v): the error %d", r, h, at, ranked, e)
	}
	if index == -1 {
		return 0, false
	}
	return ranked[index], true
}

func TestOtherSongsOfARankingDoNotMatter(t *testing.T) {
	random := rand.New(rand.NewSource(4))
	for range 4000 {
		r := anyRota(random, 1+random.Intn(20))
		h, at := anyHistory(random, r, random.Intn(40))
		ranked := anyRanking(random, r, random.Intn(21))
		want, ok := picked(t, r, h, at, ranked)
		var fewer []int
		behind := false
		for _, id := range ranked {
			mayLeave := behind || !rota.Allowed(r, h, api.Aired{Item: id, At: at})
			if !mayLeave || random.Intn(3) == 0 {
				fewer = append(fewer, id)
			}
			behind = behind || ok && id == want
		}
		if got, is := picked(t, r, h, at, fewer); got != want || is != ok {
			t.Fatalf("Pick(%v, %v, %d) of %v is %d, of %v it is %d", r, h, at, ranked, want, fewer, got)
		}
	}
}
