package debt_test

import (
	"math"
	"math/rand"
	"slices"
	"testing"

	"aircheck/api"
	"aircheck/contract"
	"aircheck/debt"
)

// This file has what the tests share: the chapter's words as slow functions, arguments to try, and checks against those words.

func within(x, least, most int) bool {
	return least <= x && x <= most
}

// origin returns the debt with this ID as it was when one of the right deeds made it, and whether one did.
func origin(l []api.Deed, id int) (api.Debt, bool) {
	for k, d := range l {
		if d.Kind == 1 && d.ID == id {
			return api.Debt{ID: id, Contract: d.Contract, Count: d.Count, Due: d.Due}, true
		}
		if d.Kind == 3 && d.To == id {
			moved, _ := origin(l[:k], d.ID)
			return api.Debt{ID: id, Contract: d.Contract, Count: d.Count, Due: moved.Due}, true
		}
	}
	return api.Debt{}, false
}

// definedDebt returns the debt with this ID after the right deeds; its Count is 0 if it is not there.
func definedDebt(l []api.Deed, id int) api.Debt {
	x, _ := origin(l, id)
	for _, d := range l {
		if d.Kind != 1 && d.ID == id {
			x.Count -= d.Count
		}
	}
	return x
}

// definedToBe reports whether d can be the next deed after right deeds.
func definedToBe(before []api.Deed, d api.Deed) bool {
	if len(before) >= 60 || !within(d.Count, 1, 50) || !within(d.At, 0, 9999999) {
		return false
	}
	if len(before) > 0 && d.At < before[len(before)-1].At {
		return false
	}
	x := definedDebt(before, d.ID)
	_, had := origin(before, d.ID)
	_, hadTo := origin(before, d.To)
	early := x.Due > d.At
	bare := d.To == 0 && d.Contract == 0 && d.Due == 0
	switch d.Kind {
	case 1:
		return !had && within(d.ID, 0, 199) && within(d.Contract, 0, 99) && d.Due > d.At && d.Due <= 10000000 && d.To == 0
	case 2:
		return x.Count >= d.Count && early && bare
	case 3:
		return x.Count >= d.Count && early && within(d.Contract, 0, 99) && d.Contract != x.Contract && within(d.To, 0, 199) && !hadTo && d.Due == 0
	case 4:
		return x.Count >= d.Count && bare
	}
	return false
}

// definedFold returns what Fold has to return.
func definedFold(l []api.Deed) ([]api.Debt, api.Sums, int, api.Errno) {
	sums := map[int]int{}
	for k, d := range l {
		if !definedToBe(l[:k], d) {
			return nil, api.Sums{}, k, api.ErrDebt
		}
		sums[d.Kind] += d.Count
	}
	var debts []api.Debt
	open := 0
	for id := range 200 {
		if x := definedDebt(l, id); x.Count > 0 {
			debts = append(debts, x)
			open += x.Count
		}
	}
	return debts, api.Sums{Owed: sums[1], Served: sums[2], Moved: sums[3], Paid: sums[4], Open: open}, len(l), api.OK
}

// definedOwe returns what Owe has to return.
func definedOwe(l []api.Contract, spots []api.Spot, now, due, id int) ([]api.Deed, api.Errno) {
	missing, e := contract.Missing(l, spots, now)
	if e != api.OK || now > 9999999 || due <= now || due > 10000000 || id < 0 || id > 199 {
		return nil, api.ErrDebt
	}
	var out []api.Deed
	for k, count := range missing {
		if count > 0 {
			out = append(out, api.Deed{Kind: 1, ID: id, Contract: l[k].ID, Count: count, Due: due, At: now})
			id++
		}
	}
	if id > 200 {
		return nil, api.ErrDebt
	}
	return out, api.OK
}

// definedAsValid reports whether the arguments are valid together.
func definedAsValid(debts []api.Debt, openings []api.Opening, now int) bool {
	if len(debts) > 20 || len(openings) > 40 || !within(now, 0, 9999999) {
		return false
	}
	least := 0
	for _, d := range debts {
		if !within(d.ID, least, 199) || !within(d.Contract, 0, 99) || !within(d.Count, 1, 50) || !within(d.Due, 0, 10000000) {
			return false
		}
		least = d.ID + 1
	}
	least = 0
	for _, o := range openings {
		if !within(o.At, least, 9999999) || !within(o.Count, 1, 20) {
			return false
		}
		least = o.At + 1
	}
	return true
}

// definedPlan returns what Plan has to return of valid arguments: the debt to be served is looked for anew each time.
func definedPlan(debts []api.Debt, openings []api.Opening, now int) ([]api.Serving, bool) {
	rest := slices.Clone(debts)
	var out []api.Serving
	for _, o := range openings {
		for room := o.Count; room > 0 && o.At >= now; {
			next := -1
			for k, d := range rest {
				if d.Count > 0 && d.Due > o.At && (next == -1 || d.Due < rest[next].Due || d.Due == rest[next].Due && d.ID < rest[next].ID) {
					next = k
				}
			}
			if next == -1 {
				break
			}
			count := min(room, rest[next].Count)
			out = append(out, api.Serving{Debt: rest[next].ID, At: o.At, Count: count})
			rest[next].Count -= count
			room -= count
		}
	}
	return out, inAll(out) == owedInAll(debts)
}

// inAll returns the sum of the Counts of servings.
func inAll(l []api.Serving) int {
	sum := 0
	for _, s := range l {
		sum += s.Count
	}
	return sum
}

// owedInAll returns the sum of the Counts of debts.
func owedInAll(debts []api.Debt) int {
	sum := 0
	for _, d := range debts {
		sum += d.Count
	}
	return sum
}

// definedLack returns what Lack has to return of valid arguments: all seconds are tried that are the Due of a debt.
func definedLack(debts []api.Debt, openings []api.Opening, now int) (int, bool) {
	first, found := 0, false
	for _, x := range debts {
		owed, room := 0, 0
		for _, d := range debts {
			if d.Due <= x.Due {
				owed += d.Count
			}
		}
		for _, o := range openings {
			if o.At >= now && o.At < x.Due {
				room += o.Count
			}
		}
		if owed > room && (!found || x.Due < first) {
			first, found = x.Due, true
		}
	}
	return first, found
}

// definedToMakeGood reports whether the servings make good for some of valid debts.
func definedToMakeGood(debts []api.Debt, openings []api.Opening, now int, l []api.Serving) bool {
	served, used := map[int]int{}, map[int]int{}
	for _, s := range l {
		known := slices.ContainsFunc(debts, func(d api.Debt) bool { return d.ID == s.Debt && s.At < d.Due })
		open := slices.ContainsFunc(openings, func(o api.Opening) bool { return o.At == s.At && s.At >= now })
		if !known || !open || !within(s.Count, 1, 50) { // no debt has a greater Count, so that the sums below are exact
			return false
		}
		served[s.Debt] += s.Count
		used[s.At] += s.Count
	}
	return !slices.ContainsFunc(debts, func(d api.Debt) bool { return served[d.ID] > d.Count }) &&
		!slices.ContainsFunc(openings, func(o api.Opening) bool { return used[o.At] > o.Count })
}

// definedCheck returns what Check has to return.
func definedCheck(debts []api.Debt, openings []api.Opening, now int, l []api.Serving) bool {
	return definedAsValid(debts, openings, now) && len(l) <= 1000 && definedToMakeGood(debts, openings, now, l) && inAll(l) == owedInAll(debts)
}

// flow returns servings that make good for as much as is possible, found by augmenting paths: an airing takes the place of another one that finds a place elsewhere. No order of deadlines plays a part in it.
func flow(debts []api.Debt, openings []api.Opening, now int) []api.Serving {
	used := make([]int, len(openings))
	served := make([][]int, len(debts))
	var place func(d int, seen []bool) bool
	place = func(d int, seen []bool) bool {
		for o, x := range openings {
			if seen[o] || x.At < now || x.At >= debts[d].Due {
				continue
			}
			seen[o] = true
			if used[o] < x.Count {
				used[o]++
				served[d][o]++
				return true
			}
			for other := range debts {
				if served[other][o] > 0 && place(other, seen) {
					served[other][o]--
					served[d][o]++
					return true
				}
			}
		}
		return false
	}
	for d := range debts {
		served[d] = make([]int, len(openings))
	}
	for d, x := range debts {
		for range x.Count {
			place(d, make([]bool, len(openings)))
		}
	}
	var out []api.Serving
	for d, counts := range served {
		for o, count := range counts {
			if count > 0 {
				out = append(out, api.Serving{Debt: debts[d].ID, At: openings[o].At, Count: count})
			}
		}
	}
	return out
}

// extremes are numbers around every bound of debts, deeds, openings and seconds, and far from them.
var extremes = []int{math.MinInt, math.MinInt + 1, -1 << 62, -1 << 32, -1 << 31, -10000000, -50, -3, -2, -1, 0, 1, 2, 3, 4, 5, 6, 9, 10, 11, 19, 20, 21, 22, 39, 40, 41, 49, 50, 51, 59, 60, 61, 98, 99, 100, 101, 198, 199, 200, 201, 1000, 9999998, 9999999, 10000000, 10000001, 1 << 31, 1<<31 + 1, 1 << 32, 1<<32 + 1, 1<<32 + 2, 1<<62 - 1, 1 << 62, math.MaxInt - 1, math.MaxInt}

// example returns the deeds of the chapter's example.
func example() []api.Deed {
	return []api.Deed{
		{Kind: api.DOwe, ID: 1, Contract: 3, Count: 5, Due: 100},
		{Kind: api.DServe, ID: 1, Count: 2, At: 10},
		{Kind: api.DMove, ID: 1, To: 2, Contract: 4, Count: 1, At: 20},
		{Kind: api.DPay, ID: 1, Count: 1, At: 100},
	}
}

// two returns the debts of the chapter's example.
func two() []api.Debt {
	return []api.Debt{{ID: 1, Count: 2, Due: 100}, {ID: 2, Count: 3, Due: 50}}
}

// three returns the openings of the chapter's example.
func three() []api.Opening {
	return []api.Opening{{At: 10, Count: 2}, {At: 40, Count: 2}, {At: 60, Count: 3}}
}

// scale is seconds and counts to try.
type scale struct {
	from, seconds int
	count, room   int // the greatest ones of a debt, and of an opening
}

// anyScale returns a scale with few seconds, or with many, from the first one on, up to the last one, or somewhere between.
func anyScale(random *rand.Rand) scale {
	s := scale{seconds: []int{2, 8, 50, 1000, 10000000}[random.Intn(5)], count: []int{1, 3, 10, 50}[random.Intn(4)], room: []int{1, 3, 20}[random.Intn(3)]}
	s.from = []int{0, 10000000 - s.seconds, random.Intn(10000001 - s.seconds)}[random.Intn(3)]
	return s
}

// second returns a second of the scale; it is less than MaxTime.
func (s scale) second(random *rand.Rand) int {
	return s.from + random.Intn(s.seconds)
}

// due returns a second of the scale, or the one behind it.
func (s scale) due(random *rand.Rand) int {
	return s.from + random.Intn(s.seconds+1)
}

// anyDeed returns a deed, at least or soon after the second at, that often can be after the right deeds l.
func anyDeed(random *rand.Rand, l []api.Deed, at int, s scale) api.Deed {
	d := api.Deed{Kind: 1 + random.Intn(4), ID: random.Intn(200), Count: 1 + random.Intn(s.count), At: at}
	if random.Intn(3) == 0 {
		d.At = min(9999999, at+random.Intn(1+s.seconds/8))
	}
	if debts, _, _, _ := definedFold(l); len(debts) > 0 && d.Kind != 1 {
		x := debts[random.Intn(len(debts))]
		d.ID, d.Count = x.ID, 1+random.Intn(x.Count)
		if random.Intn(3) == 0 {
			d.Count = x.Count
		}
		if random.Intn(12) == 0 {
			d.At = max(at, min(9999999, x.Due-random.Intn(2)))
		}
	}
	if d.Kind == 1 || d.Kind == 3 {
		d.Contract = random.Intn(5)
	}
	if d.Kind == 1 {
		d.Due = min(10000000, max(d.At+1, s.due(random)))
	}
	if d.Kind == 3 {
		d.To = random.Intn(200)
	}
	return d
}

// anyDeeds returns right deeds, and further deeds each of which cannot be the next one.
func anyDeeds(random *rand.Rand, most int) ([]api.Deed, []api.Deed) {
	s := anyScale(random)
	var l, wrong []api.Deed
	at := s.from
	for range 2 * most {
		d := anyDeed(random, l, at, s)
		if !definedToBe(l, d) {
			wrong = append(wrong, d)
		} else if len(l) < most {
			l = append(l, d)
			at = d.At
			wrong = nil // they might be possible now
		}
	}
	return l, wrong
}

// anyDebts returns valid debts.
func anyDebts(random *rand.Rand, s scale, count int) []api.Debt {
	ids := random.Perm(max(count, []int{20, 200}[random.Intn(2)]))[:count]
	slices.Sort(ids)
	var out []api.Debt
	for _, id := range ids {
		out = append(out, api.Debt{ID: id, Contract: random.Intn(100), Count: 1 + random.Intn(s.count), Due: s.due(random)})
	}
	return out
}

// anyOpenings returns at most this many valid openings.
func anyOpenings(random *rand.Rand, s scale, most int) []api.Opening {
	var ats []int
	for range most {
		ats = append(ats, s.second(random))
	}
	slices.Sort(ats)
	var out []api.Opening
	for _, at := range slices.Compact(ats) {
		out = append(out, api.Opening{At: at, Count: 1 + random.Intn(s.room)})
	}
	return out
}

// anyCase returns valid debts, openings and a second, and their scale.
func anyCase(random *rand.Rand) ([]api.Debt, []api.Opening, int, scale) {
	s := anyScale(random)
	debts := anyDebts(random, s, random.Intn([]int{4, 10, 21}[random.Intn(3)]))
	openings := anyOpenings(random, s, random.Intn([]int{5, 20, 41}[random.Intn(3)]))
	if random.Intn(3) == 0 && len(openings) > 0 {
		for k := range debts { // all of them are due late
			debts[k].Due = min(10000000, openings[len(openings)-1].At+random.Intn(3))
		}
	}
	now := s.from
	if random.Intn(3) == 0 {
		now = s.from + random.Intn(1+s.seconds/4)
	}
	if random.Intn(10) == 0 {
		now = s.second(random)
	}
	return debts, openings, now, s
}

// anyServings returns servings, in any order, that make good for some of the debts.
func anyServings(random *rand.Rand, debts []api.Debt, openings []api.Opening, now, tries int) []api.Serving {
	var out []api.Serving
	for range tries {
		if len(debts) == 0 || len(openings) == 0 {
			break
		}
		d, o := debts[random.Intn(len(debts))], openings[random.Intn(len(openings))]
		s := api.Serving{Debt: d.ID, At: o.At, Count: 1 + random.Intn(min(d.Count, o.Count))}
		if definedToMakeGood(debts, openings, now, append(slices.Clone(out), s)) {
			out = append(out, s)
		}
	}
	return out
}

// fold returns what Fold returns of right deeds.
func fold(t testing.TB, l []api.Deed) ([]api.Debt, api.Sums) {
	t.Helper()
	debts, sums, n, e := debt.Fold(l)
	if e != api.OK || n != len(l) {
		t.Fatalf("Fold(%v): the number %d, the error %d", l, n, e)
	}
	return debts, sums
}

// plan returns what Plan returns of valid arguments.
func plan(t testing.TB, debts []api.Debt, openings []api.Opening, now int) ([]api.Serving, bool) {
	t.Helper()
	l, all, e := debt.Plan(debts, openings, now)
	if e != api.OK {
		t.Fatalf("Plan(%v, %v, %d): the error %d", debts, openings, now, e)
	}
	return l, all
}

// checkFold fails unless Fold does what the chapter says. It returns the number that Fold returns.
func checkFold(t testing.TB, l []api.Deed) int {
	t.Helper()
	debts, sums, n, e := debt.Fold(l)
	wantDebts, wantSums, wantN, wantE := definedFold(l)
	if !slices.Equal(debts, wantDebts) || sums != wantSums || n != wantN || e != wantE {
		t.Fatalf("Fold(%v) = %v, %v, %d, %d; want %v, %v, %d, %d", l, debts, sums, n, e, wantDebts, wantSums, wantN, wantE)
	}
	return n
}

// refusesDeeds fails unless Fold names the deed with this index as the first one that cannot be.
func refusesDeeds(t testing.TB, l []api.Deed, index int) {
	t.Helper()
	debts, sums, n, e := debt.Fold(l)
	if len(debts) != 0 || sums != (api.Sums{}) || n != index || e != api.ErrDebt {
		t.Fatalf("Fold(%v) = %v, %v, %d, %d; want %d", l, debts, sums, n, e, index)
	}
}

// checkOwe fails unless Owe does what the chapter says.
func checkOwe(t testing.TB, l []api.Contract, spots []api.Spot, now, due, id int) {
	t.Helper()
	got, e := debt.Owe(l, spots, now, due, id)
	want, wantE := definedOwe(l, spots, now, due, id)
	if !slices.Equal(got, want) || e != wantE {
		t.Fatalf("Owe(%v, %v, %d, %d, %d) = %v, %d; want %v, %d", l, spots, now, due, id, got, e, want, wantE)
	}
}

// refusesOwe fails unless Owe refuses its arguments.
func refusesOwe(t testing.TB, l []api.Contract, spots []api.Spot, now, due, id int) {
	t.Helper()
	if got, e := debt.Owe(l, spots, now, due, id); len(got) != 0 || e != api.ErrDebt {
		t.Fatalf("Owe(%v, %v, %d, %d, %d) = %v, %d", l, spots, now, due, id, got, e)
	}
}

// checkCase fails unless Valid, Plan, Lack, and Check of the plan do what the chapter says for these arguments, whatever they are.
func checkCase(t testing.TB, debts []api.Debt, openings []api.Opening, now int) {
	t.Helper()
	if !definedAsValid(debts, openings, now) {
		refuses(t, debts, openings, now)
		return
	}
	if !debt.Valid(debts, openings, now) {
		t.Fatalf("%v, %v and %d are not valid", debts, openings, now)
	}
	l, all := plan(t, debts, openings, now)
	if want, wantAll := definedPlan(debts, openings, now); !slices.Equal(l, want) || all != wantAll {
		t.Fatalf("Plan(%v, %v, %d) = %v, %v; want %v, %v", debts, openings, now, l, all, want, wantAll)
	}
	due, is := debt.Lack(debts, openings, now)
	if want, wanted := definedLack(debts, openings, now); due != want || is != wanted {
		t.Fatalf("Lack(%v, %v, %d) = %d, %v; want %d, %v", debts, openings, now, due, is, want, wanted)
	}
	checkServings(t, debts, openings, now, l)
}

// checkServings fails unless Check does what the chapter says. It returns what Check returns.
func checkServings(t testing.TB, debts []api.Debt, openings []api.Opening, now int, l []api.Serving) bool {
	t.Helper()
	got := debt.Check(debts, openings, now, l)
	if got != definedCheck(debts, openings, now, l) {
		t.Fatalf("Check(%v, %v, %d, %v) = %v", debts, openings, now, l, got)
	}
	return got
}

// refuses fails unless all functions refuse the arguments, which are not valid together.
func refuses(t testing.TB, debts []api.Debt, openings []api.Opening, now int) {
	t.Helper()
	l, all, e := debt.Plan(debts, openings, now)
	due, is := debt.Lack(debts, openings, now)
	if debt.Valid(debts, openings, now) || len(l) != 0 || all || e != api.ErrDebt || due != 0 || is {
		t.Fatalf("of %v, %v and %d: the plan %v, %v, %d, the lack %d, %v", debts, openings, now, l, all, e, due, is)
	}
	var whole []api.Serving
	for k, d := range debts {
		if len(openings) > 0 {
			whole = append(whole, api.Serving{Debt: d.ID, At: openings[min(k, len(openings)-1)].At, Count: d.Count})
		}
	}
	if debt.Check(debts, openings, now, nil) || debt.Check(debts, openings, now, whole) {
		t.Fatalf("servings make good for %v by %v at %d", debts, openings, now)
	}
}
