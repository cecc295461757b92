package debt_test

import (
	"math/rand"
	"slices"
	"testing"

	"aircheck/api"
	"aircheck/debt"
)

// This file has the theorems of the chapter as properties. P14.8 is in owe_test.go.

// P14.2

// checkSums fails unless what was owed is what was made good, paid back and is still owed, after right deeds.
func checkSums(t *testing.T, l []api.Deed) api.Sums {
	t.Helper()
	debts, sums := fold(t, l)
	if sums.Owed != sums.Served+sums.Paid+sums.Open || sums.Open != owedInAll(debts) {
		t.Fatalf("after %v there are %v and %v", l, debts, sums)
	}
	moved := 0
	for _, d := range l {
		if d.Kind == api.DMove {
			moved += d.Count
		}
	}
	if sums.Moved != moved || slices.ContainsFunc(debts, func(x api.Debt) bool { return x.Count < 1 }) {
		t.Fatalf("after %v there are %v and %v", l, debts, sums)
	}
	return sums
}

func TestNothingIsLost(t *testing.T) {
	random := rand.New(rand.NewSource(10))
	all, done := 0, 0
	for range 600 {
		l, _ := anyDeeds(random, random.Intn(61))
		for n := range l {
			checkSums(t, l[:n])
		}
		sums := checkSums(t, l)
		if sums.Served > 0 && sums.Moved > 0 && sums.Paid > 0 && sums.Open > 0 {
			all++
		}
		if sums.Owed > 0 && sums.Open == 0 {
			done++
		}
	}
	if all < 300 || done < 5 {
		t.Errorf("%d lists have all kinds of deeds, after %d nothing is owed", all, done)
	}
}

// settled returns right deeds after which nothing is owed: what is left after l is paid back.
func settled(t *testing.T, l []api.Deed) []api.Deed {
	t.Helper()
	debts, _ := fold(t, l)
	out := slices.Clone(l)
	for _, x := range debts {
		out = append(out, api.Deed{Kind: api.DPay, ID: x.ID, Count: x.Count, At: l[len(l)-1].At})
	}
	return out
}

func TestWhatIsPaidBackIsOwedNoMore(t *testing.T) {
	random := rand.New(rand.NewSource(11))
	for range 400 {
		l, _ := anyDeeds(random, 1+random.Intn(30))
		if len(l) == 0 {
			continue
		}
		before := checkSums(t, l)
		whole := settled(t, l)
		if after := checkSums(t, whole); after.Open != 0 || after.Paid != before.Paid+before.Open || after.Served != before.Served || after.Owed != before.Owed {
			t.Fatalf("after %v there is %v, before it was %v", whole, after, before)
		}
	}
}

// P14.3

// checkPrefixes fails unless all deeds before the first one that cannot be are right, also without the last ones of them, and further deeds do not change which is the first one. It returns the index of the first one.
func checkPrefixes(t *testing.T, l, more []api.Deed) int {
	t.Helper()
	_, _, index, e := debt.Fold(l)
	for n := range l {
		_, _, got, f := debt.Fold(l[:n])
		if n <= index && (got != n || f != api.OK) || n > index && (got != index || f != api.ErrDebt) {
			t.Fatalf("of %v the first one that cannot be is %d, of %d of them %d, with the error %d", l, index, n, got, f)
		}
	}
	if e != api.OK {
		refusesDeeds(t, slices.Concat(l, more), index)
	}
	return index
}

func TestRightDeedsStayRightWithoutTheLastOnes(t *testing.T) {
	random := rand.New(rand.NewSource(12))
	right, wrong := 0, 0
	for range 400 {
		l, others := anyDeeds(random, random.Intn(61))
		more, _ := anyDeeds(random, 5)
		if checkPrefixes(t, l, more) == len(l) {
			right++
		}
		if len(others) > 0 {
			checkPrefixes(t, append(slices.Clone(l), others[0]), more)
		}
		if len(l) == 0 {
			continue
		}
		at := random.Intn(len(l))
		*numbers(&l[at])[random.Intn(7)] = extremes[random.Intn(len(extremes))]
		if checkPrefixes(t, l, more) < len(l) {
			wrong++
		}
		checkPrefixes(t, slices.Delete(l, at, at+1), more)
	}
	if right != 400 || wrong < 200 {
		t.Errorf("%d lists are right, %d wrong", right, wrong)
	}
}

func TestMoreThanSixtyDeedsHaveAFirstOneThatCannotBe(t *testing.T) {
	var l []api.Deed
	for k := range 100 {
		l = append(l, api.Deed{Kind: api.DOwe, ID: k, Contract: 1, Count: 1, Due: 50})
	}
	if got := checkPrefixes(t, l, l); got != 60 {
		t.Errorf("the first one is %d", got)
	}
	for _, index := range []int{0, 30, 59, 60} {
		l[index].Count = -1
		if got := checkPrefixes(t, l, l); got != index {
			t.Errorf("the first one is %d; want %d", got, index)
		}
		l[index].Count = 1
	}
}

// P14.4

// checkDeadlines fails unless Plan makes good for all exactly if Lack finds nothing, and what Lack finds is the first deadline that servings miss. It returns whether all is made good for.
func checkDeadlines(t *testing.T, debts []api.Debt, openings []api.Opening, now int) bool {
	t.Helper()
	l, all := plan(t, debts, openings, now)
	due, is := debt.Lack(debts, openings, now)
	if all == is || all != (inAll(l) == owedInAll(debts)) {
		t.Fatalf("of %v by %v at %d %v are served, and the lack is %d, %v", debts, openings, now, l, due, is)
	}
	early := slices.DeleteFunc(slices.Clone(debts), func(d api.Debt) bool { return d.Due >= due })
	upTo := slices.DeleteFunc(slices.Clone(debts), func(d api.Debt) bool { return d.Due > due })
	if is && (inAll(flow(early, openings, now)) != owedInAll(early) || inAll(flow(upTo, openings, now)) == owedInAll(upTo)) {
		t.Fatalf("%d is not the first deadline that is missed of %v by %v at %d", due, debts, openings, now)
	}
	return all
}

func TestAllIsMadeGoodForUnlessThereIsALack(t *testing.T) {
	random := rand.New(rand.NewSource(13))
	whole, lacking := 0, 0
	for range 4000 {
		debts, openings, now, _ := anyCase(random)
		if !checkDeadlines(t, debts, openings, now) {
			lacking++
		} else if len(debts) > 0 {
			whole++
		}
	}
	if whole < 500 || lacking < 500 {
		t.Errorf("all was made good for in %d cases, not in %d", whole, lacking)
	}
}

func TestDeadlinesOfSmallCases(t *testing.T) {
	for _, debts := range smallDebts(3) {
		for _, openings := range smallOpenings() {
			checkDeadlines(t, debts, openings, 0)
			checkDeadlines(t, debts, openings, 1)
		}
	}
}

// P14.5

// inPieces returns the servings in another order, some of them in several pieces.
func inPieces(random *rand.Rand, l []api.Serving) []api.Serving {
	var out []api.Serving
	for _, s := range l {
		for s.Count > 0 {
			piece := s
			piece.Count = 1 + random.Intn(s.Count)
			s.Count -= piece.Count
			out = append(out, piece)
		}
	}
	random.Shuffle(len(out), func(a, b int) { out[a], out[b] = out[b], out[a] })
	return out
}

// checkCertificate fails if Check accepts servings of which the chapter says that they do not make good for all, or although Lack finds something. It returns whether Check accepts them.
func checkCertificate(t *testing.T, debts []api.Debt, openings []api.Opening, now int, l []api.Serving) bool {
	t.Helper()
	if !checkServings(t, debts, openings, now, l) {
		return false
	}
	if due, is := debt.Lack(debts, openings, now); is {
		t.Fatalf("%v make good for %v by %v at %d, but the lack is %d", l, debts, openings, now, due)
	}
	return true
}

func TestPlansAreCertificates(t *testing.T) {
	random := rand.New(rand.NewSource(14))
	plans, others, wrong := 0, 0, 0
	for range 4000 {
		debts, openings, now, _ := anyCase(random)
		l, all := plan(t, debts, openings, now)
		if checkCertificate(t, debts, openings, now, l) != all || checkCertificate(t, debts, openings, now, inPieces(random, l)) != all {
			t.Fatalf("the plan %v of %v by %v at %d is accepted, or not", l, debts, openings, now)
		}
		if all && len(debts) > 0 {
			plans++
		}
		if m := flow(debts, openings, now); checkCertificate(t, debts, openings, now, inPieces(random, m)) && !slices.Equal(l, m) {
			others++
		}
		if len(l) > 0 {
			s := &l[random.Intn(len(l))]
			*[]*int{&s.Debt, &s.At, &s.Count}[random.Intn(3)] += random.Intn(7) - 3
			if !checkCertificate(t, debts, openings, now, l) {
				wrong++
			}
		}
	}
	if plans < 500 || others < 300 || wrong < 1000 {
		t.Errorf("accepted were %d plans and %d other servings, and not accepted %d", plans, others, wrong)
	}
}

func TestAnyServingsAreCertificatesIfTheyAreAccepted(t *testing.T) {
	random := rand.New(rand.NewSource(15))
	accepted := 0
	for range 3000 {
		debts, openings, now, _ := anyCase(random)
		if checkCertificate(t, debts, openings, now, anyServings(random, debts, openings, now, 40)) && len(debts) > 0 {
			accepted++
		}
	}
	if accepted < 100 {
		t.Errorf("only %d were accepted", accepted)
	}
}

// P14.6

func TestNoServingsAreMoreThanThoseOfPlan(t *testing.T) {
	random := rand.New(rand.NewSource(16))
	less := 0
	for range 4000 {
		debts, openings, now, _ := anyCase(random)
		l, all := plan(t, debts, openings, now)
		if !definedToMakeGood(debts, openings, now, l) {
			t.Fatalf("%v do not make good for %v by %v at %d", l, debts, openings, now)
		}
		if most := inAll(flow(debts, openings, now)); inAll(l) != most {
			t.Fatalf("%v of %v by %v at %d are %d; possible are %d", l, debts, openings, now, inAll(l), most)
		}
		if got := inAll(anyServings(random, debts, openings, now, 20)); got > inAll(l) {
			t.Fatalf("%v of %v by %v at %d are %d; possible are %d", l, debts, openings, now, inAll(l), got)
		}
		if !all && len(l) > 0 {
			less++
		}
	}
	if less < 1000 {
		t.Errorf("only in %d cases some debts were not made good for", less)
	}
}

// greatest returns the greatest sum of servings of debts at openings, by trying how much of the first debt is served at each opening.
func greatest(debts []api.Debt, openings []api.Opening, from int) int {
	if len(debts) == 0 {
		return 0
	}
	if from == len(openings) {
		return greatest(debts[1:], openings, 0)
	}
	most := 0
	for count := 0; count == 0 || count <= min(debts[0].Count, openings[from].Count) && openings[from].At < debts[0].Due; count++ {
		rest, room := slices.Clone(debts), slices.Clone(openings)
		rest[0].Count -= count
		room[from].Count -= count
		most = max(most, count+greatest(rest, room, from+1))
	}
	return most
}

func TestPlansOfSmallCasesAreTheGreatest(t *testing.T) {
	for _, debts := range smallDebts(2) {
		for _, openings := range smallOpenings() {
			l, _ := plan(t, debts, openings, 0)
			if most := greatest(debts, openings, 0); inAll(l) != most || inAll(flow(debts, openings, 0)) != most {
				t.Fatalf("%v of %v by %v are %d; possible are %d", l, debts, openings, inAll(l), most)
			}
		}
	}
}

// P14.7

// checkMore fails unless Plan serves at least as much with the second debts and openings as with the first ones. It returns whether it is more.
func checkMore(t *testing.T, debts []api.Debt, openings []api.Opening, now int, laterDebts []api.Debt, moreOpenings []api.Opening) bool {
	t.Helper()
	l, all := plan(t, debts, openings, now)
	m, more := plan(t, laterDebts, moreOpenings, now)
	if inAll(m) < inAll(l) || all && !more {
		t.Fatalf("of %v by %v at %d %d are served; of %v by %v %d", debts, openings, now, inAll(l), laterDebts, moreOpenings, inAll(m))
	}
	return inAll(m) > inAll(l)
}

// withOpening returns the openings and a further one, unless there is one at its second.
func withOpening(openings []api.Opening, o api.Opening) []api.Opening {
	index, found := slices.BinarySearchFunc(openings, o, func(x, y api.Opening) int { return x.At - y.At })
	if found {
		return openings
	}
	return slices.Insert(slices.Clone(openings), index, o)
}

func TestWithMoreRoomAtLeastAsMuchIsServed(t *testing.T) {
	random := rand.New(rand.NewSource(17))
	opened, widened, delayed := 0, 0, 0
	for range 4000 {
		debts, openings, now, s := anyCase(random)
		if len(openings) < 40 {
			further := withOpening(openings, api.Opening{At: s.second(random), Count: 1 + random.Intn(20)})
			if checkMore(t, debts, openings, now, debts, further) {
				opened++
			}
		}
		for k, o := range openings {
			wider := slices.Clone(openings)
			wider[k].Count = o.Count + random.Intn(21-o.Count)
			if checkMore(t, debts, openings, now, debts, wider) {
				widened++
			}
		}
		for k, d := range debts {
			later := slices.Clone(debts)
			later[k].Due = min(10000000, d.Due+random.Intn(1+s.seconds))
			if checkMore(t, debts, openings, now, later, openings) {
				delayed++
			}
		}
	}
	if opened < 300 || widened < 1000 || delayed < 1000 {
		t.Errorf("more was served in %d, %d and %d cases", opened, widened, delayed)
	}
}

func TestWithMoreRoomInSmallCases(t *testing.T) {
	for _, debts := range smallDebts(2) {
		for _, openings := range smallOpenings() {
			for at := range 3 {
				checkMore(t, debts, openings, 0, debts, withOpening(openings, api.Opening{At: at, Count: 1}))
			}
			for k := range openings {
				wider := slices.Clone(openings)
				wider[k].Count++
				checkMore(t, debts, openings, 0, debts, wider)
			}
			for k := range debts {
				later := slices.Clone(debts)
				later[k].Due++
				checkMore(t, debts, openings, 0, later, openings)
			}
		}
	}
}
