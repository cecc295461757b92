package timeline_test

import (
	"math"
	"math/rand"
	"slices"
	"testing"

	"aircheck/api"
	"aircheck/timeline"
)

// This file has what the tests share: the chapter's words as slow functions, timelines to try, and checks against those words.

func within(x, least, most int) bool {
	return least <= x && x <= most
}

// definedAsValid reports whether l is valid in the words of the chapter.
func definedAsValid(l []api.Span) bool {
	if len(l) > 200 {
		return false
	}
	for k, s := range l {
		if k == 0 && s.From != 0 || s.From >= s.To || !within(s.Owner, 0, 2999) {
			return false
		}
		if k > 0 && (s.From != l[k-1].To || s.Owner == l[k-1].Owner) {
			return false
		}
	}
	return len(l) == 0 || l[len(l)-1].To <= 10000000
}

// definedEnd returns the end of l, or -1 if l is not valid.
func definedEnd(l []api.Span) int {
	if !definedAsValid(l) {
		return -1
	}
	end := 0
	for _, s := range l {
		end = s.To
	}
	return end
}

// isIn reports whether the spell from from to to has the second t.
func isIn(t, from, to int) bool {
	return from <= t && t < to
}

// definedOwner returns the owner of the second t, or -1 if l does not have it.
func definedOwner(l []api.Span, t int) int {
	for _, s := range l {
		if isIn(t, s.From, s.To) {
			return s.Owner
		}
	}
	return -1
}

// definedAsInside reports whether the seconds from from to to are inside l.
func definedAsInside(l []api.Span, from, to int) bool {
	return definedAsValid(l) && 0 <= from && from < to && to <= definedEnd(l)
}

// edges returns the seconds at which the spans begin or end.
func edges(lists ...[]api.Span) []int {
	var out []int
	for _, l := range lists {
		for _, s := range l {
			out = append(out, s.From, s.To)
		}
	}
	return out
}

// stretches returns the spells between from and to within which no second of changes begins.
func stretches(from, to int, changes []int) []api.Spell {
	seconds := append(slices.Clone(changes), from, to)
	slices.Sort(seconds)
	seconds = slices.Compact(slices.DeleteFunc(seconds, func(t int) bool { return t < from || t > to }))
	var out []api.Spell
	for k := range len(seconds) - 1 {
		out = append(out, api.Spell{From: seconds[k], To: seconds[k+1]})
	}
	return out
}

// drawn returns the spans from from to to in which each second has the owner that owner says, which changes at most at the seconds changes; or ErrTimeline if there are more than 200.
func drawn(from, to int, changes []int, owner func(t int) int) ([]api.Span, api.Errno) {
	var out []api.Span
	for _, s := range stretches(from, to, changes) {
		o := owner(s.From)
		if len(out) == 0 || out[len(out)-1].Owner != o {
			out = append(out, api.Span{From: s.From, Owner: o})
		}
		out[len(out)-1].To = s.To
	}
	if len(out) > 200 {
		return nil, api.ErrTimeline
	}
	return out, api.OK
}

// definedNew returns what New has to return.
func definedNew(end, owner int) ([]api.Span, api.Errno) {
	if !within(end, 0, 10000000) || !within(owner, 0, 2999) {
		return nil, api.ErrTimeline
	}
	return drawn(0, end, nil, func(int) int { return owner })
}

// definedPut returns what Put has to return.
func definedPut(l []api.Span, s api.Span) ([]api.Span, api.Errno) {
	if !definedAsInside(l, s.From, s.To) || !within(s.Owner, 0, 2999) {
		return nil, api.ErrTimeline
	}
	return drawn(0, definedEnd(l), append(edges(l), s.From, s.To), func(t int) int {
		if isIn(t, s.From, s.To) {
			return s.Owner
		}
		return definedOwner(l, t)
	})
}

// definedPaint returns what Paint has to return.
func definedPaint(end, owner int, l []api.Span) ([]api.Span, api.Errno) {
	out, e := definedNew(end, owner)
	for k := 0; k < len(l) && e == api.OK; k++ {
		out, e = definedPut(out, l[k])
	}
	return out, e
}

// definedWithin returns what Within has to return.
func definedWithin(l []api.Span, s api.Spell) ([]api.Span, api.Errno) {
	if !definedAsInside(l, s.From, s.To) {
		return nil, api.ErrTimeline
	}
	return drawn(s.From, s.To, edges(l), func(t int) int { return definedOwner(l, t) })
}

// definedJoin returns what Join has to return.
func definedJoin(a, b []api.Span, t int) ([]api.Span, api.Errno) {
	if !definedAsValid(a) || !definedAsValid(b) || t < 0 || t > definedEnd(a) || t > definedEnd(b) {
		return nil, api.ErrTimeline
	}
	return drawn(0, definedEnd(b), append(edges(a, b), t), func(at int) int {
		if at < t {
			return definedOwner(a, at)
		}
		return definedOwner(b, at)
	})
}

// definedOwned returns what Owned has to return.
func definedOwned(l []api.Span, owner int) ([]api.Spell, api.Errno) {
	if !definedAsValid(l) {
		return nil, api.ErrTimeline
	}
	var out []api.Spell
	for _, s := range l {
		if s.Owner == owner {
			out = append(out, api.Spell{From: s.From, To: s.To})
		}
	}
	return out, api.OK
}

// definedDiff returns what Diff has to return.
func definedDiff(a, b []api.Span) ([]api.Spell, api.Errno) {
	if !definedAsValid(a) || !definedAsValid(b) || definedEnd(a) != definedEnd(b) {
		return nil, api.ErrTimeline
	}
	var out []api.Spell
	for _, s := range stretches(0, definedEnd(a), edges(a, b)) {
		if definedOwner(a, s.From) == definedOwner(b, s.From) {
			continue
		}
		if len(out) > 0 && out[len(out)-1].To == s.From {
			out[len(out)-1].To = s.To
		} else {
			out = append(out, s)
		}
	}
	return out, api.OK
}

// lent returns l with spare capacity behind it, which is marked.
func lent(l []api.Span) []api.Span {
	return append(slices.Clone(l), api.Span{From: -7}, api.Span{From: -8})[:len(l)]
}

// isKept reports whether what lent has returned of want is still what it was.
func isKept(l, want []api.Span) bool {
	all := l[:len(l)+2]
	return slices.Equal(l, want) && all[len(l)] == (api.Span{From: -7}) && all[len(l)+1] == (api.Span{From: -8})
}

// checkCall fails unless call returns this for a and b, also when its result has been overwritten, and they stay as they are. It returns what call returned.
func checkCall[T comparable](t testing.TB, name string, a, b []api.Span, want []T, wantErr api.Errno, call func(a, b []api.Span) ([]T, api.Errno)) ([]T, api.Errno) {
	t.Helper()
	lentA, lentB := lent(a), lent(b)
	var out []T
	for range 2 {
		got, e := call(lentA, lentB)
		if !slices.Equal(got, want) || e != wantErr {
			t.Fatalf("%s of %v and %v = %v, %d; want %v, %d", name, a, b, got, e, want, wantErr)
		}
		out = slices.Clone(got)
		clear(got[:cap(got)])
		if !isKept(lentA, a) || !isKept(lentB, b) {
			t.Fatalf("after %s, %v and %v are %v and %v", name, a, b, lentA, lentB)
		}
	}
	return out, wantErr
}

// checkNew fails unless New returns what the chapter says. It returns what New returned.
func checkNew(t testing.TB, end, owner int) ([]api.Span, api.Errno) {
	t.Helper()
	want, e := definedNew(end, owner)
	return checkCall(t, "New", nil, nil, want, e, func(_, _ []api.Span) ([]api.Span, api.Errno) { return timeline.New(end, owner) })
}

// checkPut fails unless Put returns what the chapter says. It returns what Put returned.
func checkPut(t testing.TB, l []api.Span, s api.Span) ([]api.Span, api.Errno) {
	t.Helper()
	want, e := definedPut(l, s)
	return checkCall(t, "Put", l, []api.Span{s}, want, e, func(a, _ []api.Span) ([]api.Span, api.Errno) { return timeline.Put(a, s) })
}

// checkPaint fails unless Paint returns what the chapter says. It returns what Paint returned.
func checkPaint(t testing.TB, end, owner int, l []api.Span) ([]api.Span, api.Errno) {
	t.Helper()
	want, e := definedPaint(end, owner, l)
	return checkCall(t, "Paint", l, nil, want, e, func(a, _ []api.Span) ([]api.Span, api.Errno) { return timeline.Paint(end, owner, a) })
}

// checkWithin fails unless Within returns what the chapter says. It returns what Within returned.
func checkWithin(t testing.TB, l []api.Span, s api.Spell) ([]api.Span, api.Errno) {
	t.Helper()
	want, e := definedWithin(l, s)
	return checkCall(t, "Within", l, []api.Span{{From: s.From, To: s.To}}, want, e, func(a, _ []api.Span) ([]api.Span, api.Errno) { return timeline.Within(a, s) })
}

// checkJoin fails unless Join returns what the chapter says. It returns what Join returned.
func checkJoin(t testing.TB, a, b []api.Span, at int) ([]api.Span, api.Errno) {
	t.Helper()
	want, e := definedJoin(a, b, at)
	return checkCall(t, "Join", a, b, want, e, func(a, b []api.Span) ([]api.Span, api.Errno) { return timeline.Join(a, b, at) })
}

// checkOwned fails unless Owned returns what the chapter says. It returns what Owned returned.
func checkOwned(t testing.TB, l []api.Span, owner int) ([]api.Spell, api.Errno) {
	t.Helper()
	want, e := definedOwned(l, owner)
	return checkCall(t, "Owned", l, nil, want, e, func(a, _ []api.Span) ([]api.Spell, api.Errno) { return timeline.Owned(a, owner) })
}

// checkDiff fails unless Diff returns what the chapter says. It returns what Diff returned.
func checkDiff(t testing.TB, a, b []api.Span) ([]api.Spell, api.Errno) {
	t.Helper()
	want, e := definedDiff(a, b)
	return checkCall(t, "Diff", a, b, want, e, timeline.Diff)
}

// checkAt fails unless At returns what the chapter says.
func checkAt(t testing.TB, l []api.Span, at int) {
	t.Helper()
	want, wantErr := 0, api.ErrTimeline
	if definedAsValid(l) && definedOwner(l, at) != -1 {
		want, wantErr = definedOwner(l, at), api.OK
	}
	arg := lent(l)
	if got, e := timeline.At(arg, at); got != want || e != wantErr {
		t.Fatalf("At(%v, %d) = %d, %d; want %d, %d", l, at, got, e, want, wantErr)
	}
	if !isKept(arg, l) {
		t.Fatalf("%v became %v", l, arg)
	}
}

// checkLine fails unless Valid and End return what the chapter says, and all other functions refuse l if it is not valid. It reports whether it is.
func checkLine(t testing.TB, l []api.Span) bool {
	t.Helper()
	arg := lent(l)
	valid, end := timeline.Valid(arg), timeline.End(arg)
	if valid != definedAsValid(l) || end != definedEnd(l) || !isKept(arg, l) {
		t.Fatalf("of %v Valid is %v, and End %d", l, valid, end)
	}
	if valid {
		return true
	}
	checkAt(t, l, 0)
	checkPut(t, l, api.Span{From: 0, To: 1})
	checkWithin(t, l, api.Spell{From: 0, To: 1})
	checkOwned(t, l, 0)
	checkDiff(t, l, l)
	for _, other := range [][]api.Span{nil, example()} {
		checkJoin(t, l, other, 0)
		checkJoin(t, other, l, 0)
		checkDiff(t, l, other)
		checkDiff(t, other, l)
	}
	return false
}

// example is the timeline of the chapter's examples.
func example() []api.Span {
	return []api.Span{{From: 0, To: 20}, {From: 20, To: 50, Owner: 7}, {From: 50, To: 100}}
}

// extremes are numbers around every bound of a second or an owner, and far from them.
var extremes = []int{math.MinInt, math.MinInt + 1, -1 << 40, -10000000, -2, -1, 0, 1, 19, 20, 21, 49, 50, 51, 99, 100, 101, 2998, 2999, 3000, 9999999, 10000000, 10000001, 1 << 40, math.MaxInt - 1, math.MaxInt}

// smallLines returns all valid timelines with an end up to this, and owners less than owners.
func smallLines(end, owners int) [][]api.Span {
	out := [][]api.Span{nil}
	var add func(all []int)
	add = func(all []int) {
		if len(all) > 0 {
			var every []int
			for t := range all {
				every = append(every, t)
			}
			l, _ := drawn(0, len(all), every, func(t int) int { return all[t] })
			out = append(out, l)
		}
		for owner := 0; owner < owners && len(all) < end; owner++ {
			add(append(slices.Clone(all), owner))
		}
	}
	add(nil)
	return out
}

// striped returns a timeline of spans that are this long, with these owners in turn.
func striped(count, length int, owners ...int) []api.Span {
	var out []api.Span
	for k := range count {
		out = append(out, api.Span{From: k * length, To: (k + 1) * length, Owner: owners[k%len(owners)]})
	}
	return out
}

// anyEnd returns an end, small or great, of at least 1.
func anyEnd(random *rand.Rand) int {
	scales := []int{1, 6, 60, 500, 3600, 604800, 9999999}
	end := 1 + random.Intn(scales[random.Intn(len(scales))])
	if random.Intn(20) == 0 {
		end = 10000000
	}
	return end
}

// anyOwner returns an owner, often one of few.
func anyOwner(random *rand.Rand) int {
	if random.Intn(3) > 0 {
		return random.Intn(3)
	}
	return []int{0, 1, 5, 1000, 2000, 2999, random.Intn(3000)}[random.Intn(7)]
}

// anyLine returns a timeline with this end, which is at least 1, and few or many spans.
func anyLine(random *rand.Rand, end int) []api.Span {
	cuts := []int{0}
	for range random.Intn([]int{1, 2, 5, 20, 190}[random.Intn(5)]) {
		cuts = append(cuts, random.Intn(end))
	}
	slices.Sort(cuts)
	cuts = slices.Compact(cuts)
	for full := end > 1000 && random.Intn(4) == 0; full && len(cuts) < 200; {
		cuts = append(cuts, random.Intn(end))
		slices.Sort(cuts)
		cuts = slices.Compact(cuts)
	}
	var out []api.Span
	for k, from := range cuts {
		to := end
		if k+1 < len(cuts) {
			to = cuts[k+1]
		}
		s := api.Span{From: from, To: to, Owner: anyOwner(random)}
		for k > 0 && s.Owner == out[k-1].Owner {
			s.Owner = anyOwner(random)
		}
		out = append(out, s)
	}
	return out
}

// anySecond returns a second from 0 to the end of l, which is at least 1, often one near to a change of the owner.
func anySecond(random *rand.Rand, l []api.Span) int {
	end := l[len(l)-1].To
	if random.Intn(3) == 0 {
		return random.Intn(end + 1)
	}
	s := l[random.Intn(len(l))]
	near := []int{s.From, s.To}[random.Intn(2)] + []int{0, 0, 1, -1}[random.Intn(4)]
	return max(0, min(end, near))
}

// anySpell returns a spell that is inside l, often one within a span of l.
func anySpell(random *rand.Rand, l []api.Span) api.Spell {
	for {
		s := api.Spell{From: anySecond(random, l), To: anySecond(random, l)}
		if random.Intn(3) == 0 {
			in := l[random.Intn(len(l))]
			s.From = in.From + random.Intn(in.To-in.From)
			s.To = s.From + 1 + random.Intn(in.To-s.From)
		}
		if s.From > s.To {
			s.From, s.To = s.To, s.From
		}
		if s.From < s.To {
			return s
		}
	}
}

// anySpan returns a span that is inside l.
func anySpan(random *rand.Rand, l []api.Span) api.Span {
	s := anySpell(random, l)
	return api.Span{From: s.From, To: s.To, Owner: anyOwner(random)}
}
