package equal_test

import (
	"math/rand"
	"slices"
	"testing"

	"aircheck/api"
	"aircheck/equal"
)

// P13.1: Valid

// full returns as many appearances as there may be, with the greatest numbers, for eight candidates.
func full() []api.Appearance {
	var out []api.Appearance
	for k := range 60 {
		out = append(out, api.Appearance{Candidate: 7 - k%2, At: 10000000 - 59 + k, Seconds: 3600, Weight: 10})
	}
	return out
}

func TestValidAppearances(t *testing.T) {
	for _, x := range []struct {
		n int
		l []api.Appearance
	}{
		{2, nil}, {8, nil}, {3, []api.Appearance{}}, {2, three()}, {3, three()}, {8, three()}, {8, full()},
		{2, []api.Appearance{{Candidate: 0, At: 0, Seconds: 1, Weight: 1}, {Candidate: 1, At: 1, Seconds: 1, Weight: 1}}},
		{2, []api.Appearance{{Candidate: 1, At: 0, Seconds: 3600, Weight: 10}, {Candidate: 1, At: 10000000, Seconds: 3600, Weight: 10}}},
	} {
		if !equal.Valid(x.n, x.l) {
			t.Errorf("%v are not valid for %d candidates", x.l, x.n)
		}
		for _, now := range extremes {
			checkCase(t, x.n, x.l, now)
		}
	}
}

func TestTheNumberOfCandidatesIsChecked(t *testing.T) {
	for _, n := range extremes {
		for _, l := range [][]api.Appearance{nil, three(), full()} {
			checkCase(t, n, l, 250)
			if n < 2 || n > 8 {
				refuses(t, n, l)
			}
		}
	}
	refuses(t, 1, appearancesOf([2]int{0, 10}))
	refuses(t, 2, appearancesOf([2]int{2, 10}))
	refuses(t, 7, full())
}

func TestAppearancesAreLimited(t *testing.T) {
	var l []api.Appearance
	for count := range 130 {
		if count > 60 {
			refuses(t, 3, l)
		} else {
			checkCase(t, 3, l, 10*count)
			if !equal.Valid(3, l) {
				t.Errorf("%d appearances are not valid", count)
			}
		}
		l = append(l, api.Appearance{Candidate: count % 3, At: 10 * count, Seconds: 1, Weight: 1})
	}
	refuses(t, 3, make([]api.Appearance, 100000))
}

func TestSecondsOfAppearancesAscend(t *testing.T) {
	for a := range 4 {
		for b := range 4 {
			for c := range 4 {
				l := three()
				l[0].At, l[1].At, l[2].At = a, b, c
				if a >= b || b >= c {
					refuses(t, 3, l)
				} else if !equal.Valid(3, l) {
					t.Errorf("%d, %d, %d are not valid", a, b, c)
				}
			}
		}
	}
}

// numbers returns pointers to the numbers of the appearances.
func numbers(l []api.Appearance) []*int {
	var out []*int
	for k := range l {
		out = append(out, &l[k].Candidate, &l[k].At, &l[k].Seconds, &l[k].Weight)
	}
	return out
}

func TestEveryNumberOfAnAppearanceIsChecked(t *testing.T) {
	for field := range numbers(three()) {
		for _, value := range extremes {
			l := three()
			*numbers(l)[field] = value
			for n := 2; n <= 8; n++ {
				if !definedAsValid(n, l) {
					refuses(t, n, l)
				}
				for _, now := range []int{0, 100, 200, 300, 10000000, 20000000} {
					checkCase(t, n, l, now)
				}
			}
		}
	}
}

func TestEveryTwoNumbersOfAppearancesAreChecked(t *testing.T) {
	for x := range numbers(three()[:2]) {
		for y := range x {
			for _, a := range extremes {
				for _, b := range extremes {
					l := three()[:2]
					*numbers(l)[x], *numbers(l)[y] = a, b
					checkCase(t, 3, l, 10000000)
				}
			}
		}
	}
}

func TestTheLastAppearanceIsChecked(t *testing.T) {
	for field, value := range []int{8, 10000001, 3601, 11} {
		l := full()
		*numbers(l)[4*59+field] = value
		refuses(t, 8, l)
	}
	l := full()
	l[59].At = l[58].At
	refuses(t, 8, l)
}

// P13.1: the second

func TestTheSecondIsChecked(t *testing.T) {
	for _, now := range extremes {
		for _, l := range [][]api.Appearance{nil, three(), full()} {
			checkCase(t, 8, l, now)
			if now < 0 || now > 20000000 {
				refusesNow(t, 8, l, now)
			} else if _, e := equal.Claims(8, l, now); e != api.OK {
				t.Errorf("at %d: the error %d", now, e)
			}
		}
	}
}

// P13.1: Claims, Owed, Totals and Next

func TestExamples(t *testing.T) {
	two := api.Claim{Candidate: 2, Of: 0, Rest: 20, Until: 604900}
	later := api.Claim{Candidate: 2, Of: 1, Rest: 10, Until: 605000}
	for _, x := range []struct {
		now       int
		want      []api.Claim
		owed, had []int
	}{
		{0, nil, []int{0, 0, 0}, []int{0, 0, 0}},
		{99, nil, []int{0, 0, 0}, []int{0, 0, 0}},
		{100, []api.Claim{{Candidate: 1, Of: 0, Rest: 20, Until: 604900}, two}, []int{0, 20, 20}, []int{20, 0, 0}},
		{199, []api.Claim{{Candidate: 1, Of: 0, Rest: 20, Until: 604900}, two}, []int{0, 20, 20}, []int{20, 0, 0}},
		{200, []api.Claim{two, {Candidate: 0, Of: 1, Rest: 10, Until: 605000}, later}, []int{10, 0, 30}, []int{20, 30, 0}},
		{299, []api.Claim{two, {Candidate: 0, Of: 1, Rest: 10, Until: 605000}, later}, []int{10, 0, 30}, []int{20, 30, 0}},
		{300, []api.Claim{two, {Candidate: 0, Of: 1, Rest: 6, Until: 605000}, later}, []int{6, 0, 30}, []int{24, 30, 0}},
		{20000000, []api.Claim{two, {Candidate: 0, Of: 1, Rest: 6, Until: 605000}, later}, []int{6, 0, 30}, []int{24, 30, 0}},
	} {
		if got := claims(t, 3, three(), x.now); !slices.Equal(got, x.want) {
			t.Errorf("at %d the open claims are %v; want %v", x.now, got, x.want)
		}
		if got := owed(t, 3, three(), x.now); !slices.Equal(got, x.owed) {
			t.Errorf("at %d are owed %v; want %v", x.now, got, x.owed)
		}
		if got := totals(t, 3, three(), x.now); !slices.Equal(got, x.had) {
			t.Errorf("at %d the totals are %v; want %v", x.now, got, x.had)
		}
		first, ok := equal.Next(3, three(), x.now)
		if ok != (len(x.want) > 0) || ok && first != x.want[0] || !ok && first != (api.Claim{}) {
			t.Errorf("at %d the next claim is %v, %v", x.now, first, ok)
		}
	}
}

func TestWhatAnAppearanceServes(t *testing.T) {
	begin := [][2]int{{0, 5}, {0, 7}, {0, 2}} // the candidate 1 may claim 5, 7 and 2
	for _, x := range []struct {
		worth int
		rests []int // of the candidate 1
		new   int   // of the candidate 0
	}{
		{1, []int{4, 7, 2}, 0}, {4, []int{1, 7, 2}, 0}, {5, []int{7, 2}, 0}, {6, []int{6, 2}, 0}, {11, []int{1, 2}, 0},
		{12, []int{2}, 0}, {13, []int{1}, 0}, {14, nil, 0}, {15, nil, 1}, {3600, nil, 3586},
	} {
		for n := 2; n <= 8; n++ {
			l := appearancesOf(append(slices.Clone(begin), [2]int{1, x.worth})...)
			checkCase(t, n, l, 40)
			var rests []int
			first := 0
			for _, c := range claims(t, n, l, 40) {
				if c.Candidate == 1 {
					rests = append(rests, c.Rest)
				}
				if c.Candidate == 0 {
					first += c.Rest
				}
			}
			if !slices.Equal(rests, x.rests) || first != x.new {
				t.Errorf("after %d of %d candidates, 1 may claim %v, and 0 %d; want %v and %d", x.worth, n, rests, first, x.rests, x.new)
			}
		}
	}
}

func TestOnlyWhatIsLeftIsClaimedByTheOthers(t *testing.T) {
	l := append(three(), api.Appearance{Candidate: 2, At: 400, Seconds: 7, Weight: 5})
	want := []api.Claim{{Candidate: 0, Of: 1, Rest: 6, Until: 605000}, {Candidate: 0, Of: 3, Rest: 5, Until: 605200}, {Candidate: 1, Of: 3, Rest: 5, Until: 605200}}
	if got := claims(t, 3, l, 400); !slices.Equal(got, want) {
		t.Errorf("the open claims are %v; want %v", got, want)
	}
	if a, b := totals(t, 3, l, 400), owed(t, 3, l, 400); !slices.Equal(a, []int{24, 30, 35}) || !slices.Equal(b, []int{11, 5, 0}) {
		t.Errorf("the totals are %v, and %v are owed", a, b)
	}
	l[3].Seconds = 6
	if got := claims(t, 3, l, 400); !slices.Equal(got, want[:1]) {
		t.Errorf("the open claims are %v; want %v", got, want[:1])
	}
}

func TestGreatestSums(t *testing.T) {
	l := full()
	for k := range l {
		l[k].Candidate = 7
	}
	if got := totals(t, 8, l, 10000000); !slices.Equal(got, []int{0, 0, 0, 0, 0, 0, 0, 2160000}) {
		t.Errorf("the totals are %v", got)
	}
	if got := owed(t, 8, l, 10000000); !slices.Equal(got, []int{2160000, 2160000, 2160000, 2160000, 2160000, 2160000, 2160000, 0}) {
		t.Errorf("%v are owed", got)
	}
	if got := claims(t, 8, l, 10000000); len(got) != 420 || got[419] != (api.Claim{Candidate: 6, Of: 59, Rest: 36000, Until: 10604800}) {
		t.Errorf("there are %d open claims", len(got))
	}
}

// P13.1: Overdue

func TestOverdueOfExamples(t *testing.T) {
	all := claims(t, 3, three(), 300)
	for now, want := range map[int]int{0: 0, 604899: 0, 604900: 0, 604901: 1, 605000: 1, 605001: 3, 20000000: 3} {
		if got := overdue(t, 3, three(), now); !slices.Equal(got, all[:want]) {
			t.Errorf("at %d %v are overdue; want %v", now, got, all[:want])
		}
	}
}

func TestClaimsAreOverdueAfterTheLastSecondToo(t *testing.T) {
	l := []api.Appearance{{Candidate: 0, At: 10000000, Seconds: 5, Weight: 1}}
	for now, want := range map[int]int{10000000: 0, 10604800: 0, 10604801: 1, 20000000: 1} {
		if got := overdue(t, 2, l, now); len(got) != want {
			t.Errorf("at %d %v are overdue", now, got)
		}
	}
}

func TestAnOverdueClaimIsStillServed(t *testing.T) {
	l := three()
	l[2] = api.Appearance{Candidate: 2, At: 700000, Seconds: 25, Weight: 1}
	if got, want := overdue(t, 3, l, 699999), claims(t, 3, l, 699999); len(got) != 3 || !slices.Equal(got, want) {
		t.Errorf("%v are overdue; want %v", got, want)
	}
	if got := claims(t, 3, l, 700000); !slices.Equal(got, []api.Claim{{Candidate: 0, Of: 1, Rest: 10, Until: 605000}, {Candidate: 2, Of: 1, Rest: 5, Until: 605000}}) {
		t.Errorf("the open claims are %v", got)
	}
}

// P13.1: all functions

// shortLists returns the lists of at most this many appearances of n candidates, with worths of 1 to most.
func shortLists(n, count, most int) [][]api.Appearance {
	out := [][]api.Appearance{nil}
	for k := 0; k < len(out); k++ {
		if len(out[k]) == count {
			break
		}
		for candidate := range n {
			for worth := 1; worth <= most; worth++ {
				out = append(out, append(slices.Clone(out[k]), api.Appearance{Candidate: candidate, At: 7 * len(out[k]), Seconds: worth, Weight: 1}))
			}
		}
	}
	return out
}

func TestAllShortLists(t *testing.T) {
	for _, x := range [][3]int{{2, 5, 3}, {3, 4, 3}, {4, 3, 2}} {
		for _, l := range shortLists(x[0], x[1], x[2]) {
			checkCase(t, x[0], l, 7*len(l))
			checkCase(t, x[0], l, 604800+7)
		}
	}
}

func TestAnyAppearances(t *testing.T) {
	random := rand.New(rand.NewSource(1))
	served, late, none := 0, 0, 0
	for range 6000 {
		n, l, s := anyCase(random)
		if !equal.Valid(n, l) {
			t.Fatalf("%v are not valid for %d candidates", l, n)
		}
		for range 4 {
			now := anyNow(random, s)
			checkCase(t, n, l, now)
			if open := claims(t, n, l, now); len(open) == 0 {
				none++
			} else if len(open)%(n-1) != 0 {
				served++
			}
			if len(overdue(t, n, l, now)) > 0 {
				late++
			}
		}
	}
	if served < 2000 || late < 2000 || none < 500 {
		t.Errorf("some claims were served in %d cases, late in %d, none in %d", served, late, none)
	}
}

func TestArgumentsAreNotChanged(t *testing.T) {
	random := rand.New(rand.NewSource(2))
	for range 500 {
		n, l, s := anyCase(random)
		all := append(slices.Clone(l), api.Appearance{At: -7}, api.Appearance{At: -8})
		want := slices.Clone(all)
		checkCase(t, n, all[:len(l)], anyNow(random, s))
		if !slices.Equal(all, want) {
			t.Fatalf("%v became %v", want, all)
		}
	}
}

func TestResultsAreNewMemory(t *testing.T) {
	random := rand.New(rand.NewSource(3))
	for range 500 {
		n, l, s := anyCase(random)
		now := anyNow(random, s)
		want := slices.Clone(l)
		open, late := claims(t, n, l, now), overdue(t, n, l, now)
		had, rest := totals(t, n, l, now), owed(t, n, l, now)
		for _, out := range [][]api.Claim{open[:cap(open)], late[:cap(late)]} {
			for k := range out {
				out[k] = api.Claim{Candidate: -9}
			}
		}
		for _, out := range [][]int{had[:cap(had)], rest[:cap(rest)]} {
			for k := range out {
				out[k] = -9
			}
		}
		checkCase(t, n, l, now)
		if !slices.Equal(l, want) {
			t.Fatalf("a result shares memory with an argument: %v became %v", want, l)
		}
	}
}

func FuzzEqual(f *testing.F) {
	f.Add(3, 0, 100, 10, 2, 1, 200, 15, 2, 0, 300, 4, 1, 300)
	f.Add(8, 7, 0, 3600, 10, 6, 1, 3600, 10, 7, 10000000, 1, 1, 20000000)
	f.Add(1, 0, 5, 1, 1, 0, 5, 0, 0, -1, -1, 3601, 11, -1)
	f.Fuzz(func(t *testing.T, n, candidate1, at1, seconds1, weight1, candidate2, at2, seconds2, weight2, candidate3, at3, seconds3, weight3, now int) {
		l := []api.Appearance{
			{Candidate: candidate1, At: at1, Seconds: seconds1, Weight: weight1},
			{Candidate: candidate2, At: at2, Seconds: seconds2, Weight: weight2},
			{Candidate: candidate3, At: at3, Seconds: seconds3, Weight: weight3},
		}
		for count := range 4 {
			for _, at := range []int{now, at1, at2, at3} {
				checkCase(t, n, l[:count], at)
			}
		}
	})
}
