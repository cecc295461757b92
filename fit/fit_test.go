package fit_test

import (
	"math/rand"
	"slices"
	"testing"

	"aircheck/api"
	"aircheck/fit"
)

// P10.1: Valid

func TestValidPieces(t *testing.T) {
	for _, l := range [][]api.Piece{
		nil,
		{},
		example(300),
		slices.Repeat(example(-1), 5),
		{{Lengths: []int{0}}},
		{{Lengths: []int{3600}, Want: 3600, Join: 3600}},
		{{Lengths: []int{0, 1, 2, 3, 4, 5, 6, 3600}, Want: 3600, Join: -1}},
		{{Lengths: []int{0, 1}, Want: 1000, Join: 0}, {Lengths: []int{7}, Want: 0, Join: 3}, {Lengths: []int{3599, 3600}, Join: 2}},
	} {
		for _, total := range []int{0, 1, 330, 3599, 3600} {
			if !fit.Valid(l, total) {
				t.Errorf("%v and %d are not valid", l, total)
			}
			secondBySecond.check(t, l, total)
		}
	}
}

func TestNumbersOfPiecesAndLengthsAreLimited(t *testing.T) {
	var lengths []int
	for n := range 30 {
		l := slices.Repeat([]api.Piece{piece(100)}, n)
		if n > 20 {
			refuses(t, l, 100*n)
		} else {
			secondBySecond.check(t, l, 100*n)
		}
		one := []api.Piece{piece(5), {Lengths: slices.Clone(lengths), Join: -1}}
		if n < 1 || n > 8 {
			refuses(t, one, 5)
			refuses(t, one[1:], 0)
		} else {
			oneByOne.check(t, one, 5)
			oneByOne.check(t, one[1:], n-1)
		}
		lengths = append(lengths, n)
	}
	refuses(t, slices.Repeat([]api.Piece{piece(0)}, 100000), 0)
	refuses(t, []api.Piece{{Lengths: slices.Repeat([]int{0}, 100000), Join: -1}}, 0)
}

func TestTotalsAreLimited(t *testing.T) {
	for _, l := range [][]api.Piece{nil, example(300), {piece(0)}, {piece(3600)}, {piece(1, 3600), piece(0, 1)}} {
		for _, total := range extremes {
			if total < 0 || total > 3600 {
				refuses(t, l, total)
			} else {
				oneByOne.check(t, l, total)
			}
		}
	}
}

func TestEveryNumberOfAPieceIsChecked(t *testing.T) {
	for place := range 4 {
		for field := range 5 {
			for _, n := range extremes {
				l := copyOf(example(300))
				fields := numbers(&l[place])
				if field >= len(fields) {
					continue
				}
				*fields[field] = n
				if definedAsPieces(l, 330) {
					oneByOne.check(t, l, 330)
				} else {
					refuses(t, l, 330)
				}
			}
		}
	}
}

func TestEveryTwoNumbersOfAPieceAreChecked(t *testing.T) {
	for x := range 5 {
		for y := range x {
			for _, n := range extremes {
				for _, m := range extremes {
					l := copyOf(example(300))
					*numbers(&l[2])[x], *numbers(&l[2])[y] = n, m
					if fit.Valid(l, 330) != definedAsPieces(l, 330) {
						t.Fatalf("Valid(%v) = %v", l, fit.Valid(l, 330))
					}
				}
			}
		}
	}
}

func TestLengthsAscendStrictly(t *testing.T) {
	for code := range 5 * 5 * 5 * 5 {
		lengths := []int{code % 5, code / 5 % 5, code / 25 % 5, code / 125}
		l := []api.Piece{piece(3), {Lengths: lengths, Want: 2, Join: 3}}
		if lengths[0] < lengths[1] && lengths[1] < lengths[2] && lengths[2] < lengths[3] {
			oneByOne.check(t, l, 5)
		} else {
			refuses(t, l, 5)
		}
	}
	for k := 1; k < 8; k++ {
		for _, less := range []int{0, 1, 5} {
			p := piece(10, 20, 30, 40, 50, 60, 70, 80)
			p.Lengths[k] = p.Lengths[k-1] - less
			refuses(t, []api.Piece{p}, p.Lengths[k])
		}
	}
}

// P10.1: Check

func TestCheckOfExamples(t *testing.T) {
	for _, c := range []struct {
		join, total int
		lengths     []int
		cost        int
		ok          bool
	}{
		{300, 330, []int{10, 200, 90, 30}, 0, true},
		{300, 330, []int{10, 170, 120, 30}, 60, true},
		{-1, 330, []int{10, 200, 90, 30}, 0, true},
		{-1, 300, []int{10, 200, 60, 30}, 30, true},
		{-1, 270, []int{10, 170, 60, 30}, 60, true},
		{-1, 360, []int{10, 200, 120, 30}, 30, true},
		{300, 331, []int{10, 200, 90, 30}, 0, false},
		{300, 329, []int{10, 200, 90, 30}, 0, false},
		{300, 300, []int{10, 200, 60, 30}, 0, false},
		{301, 330, []int{10, 200, 90, 30}, 0, false},
		{299, 330, []int{10, 200, 90, 30}, 0, false},
		{0, 330, []int{10, 200, 90, 30}, 0, false},
		{300, 330, []int{10, 199, 91, 30}, 0, false},
		{300, 330, []int{10, 230, 60, 30}, 0, false},
		{300, 330, []int{0, 210, 90, 30}, 0, false},
		{300, 330, []int{10, 200, 90}, 0, false},
		{300, 330, []int{10, 200, 90, 30, 0}, 0, false},
		{300, 330, nil, 0, false},
	} {
		l := example(c.join)
		if cost, ok := fit.Check(l, c.total, c.lengths); cost != c.cost || ok != c.ok {
			t.Errorf("Check(%v, %d, %v) = %d, %v", l, c.total, c.lengths, cost, ok)
		}
		checkCheck(t, l, c.total, c.lengths)
	}
	for _, lengths := range [][]int{nil, {}} {
		if cost, ok := fit.Check(nil, 0, lengths); cost != 0 || !ok {
			t.Errorf("Check of no pieces = %d, %v", cost, ok)
		}
	}
	if cost, ok := fit.Check(nil, 1, nil); cost != 0 || ok {
		t.Errorf("Check of no pieces for a second = %d, %v", cost, ok)
	}
}

func TestCheckOfWrongLengths(t *testing.T) {
	for place := range 4 {
		for _, n := range extremes {
			for _, total := range []int{0, 330, 3600} {
				lengths := []int{10, 200, 90, 30}
				lengths[place] = n
				checkCheck(t, example(300), total, lengths)
				checkCheck(t, example(-1), total, lengths)
				// Where lengths wrap around, their sum can be that of a choice.
				lengths[(place+1)%4] -= n
				checkCheck(t, example(-1), total, lengths)
			}
		}
	}
	checkCheck(t, example(300), 330, make([]int, 100000))
	checkCheck(t, nil, 0, make([]int, 1))
}

func TestCheckOfEachChoice(t *testing.T) {
	r := rand.New(rand.NewSource(100))
	for range 300 {
		l, total, _ := anyHour(r, r.Intn(5), 4, 6)
		choices(l, func(lengths []int) {
			checkCheck(t, l, total, lengths)
			checkCheck(t, l, min(sum(lengths), 3600), lengths)
			if len(l) > 0 {
				checkCheck(t, l, total, lengths[1:])
				lengths[r.Intn(len(l))] += r.Intn(3) - 1
				checkCheck(t, l, min(max(sum(lengths), 0), 3600), lengths)
			}
		})
	}
}

// P10.1: Begins

func TestBeginsOfExamples(t *testing.T) {
	for _, c := range []struct {
		l    []api.Piece
		want [][]int
	}{
		{nil, [][]int{{0}}},
		{example(300), [][]int{{0}, {10}, {180, 210}, {300}, {330}}},
		{example(-1), [][]int{{0}, {10}, {180, 210}, {240, 270, 300, 330}, {270, 300, 330, 360}}},
		{example(240), [][]int{{0}, {10}, {180, 210}, {240}, {270}}},
		{example(305), [][]int{{0}, {10}, {180, 210}, nil, nil}},
		{example(3600), [][]int{{0}, {10}, {180, 210}, nil, nil}},
		{[]api.Piece{joined(piece(0, 5), 0), joined(piece(1), 5), piece(7)}, [][]int{{0}, {5}, {6}, {13}}},
		{[]api.Piece{joined(piece(0, 5), 1), piece(1)}, [][]int{nil, nil, nil}},
		// a join after which another one is earlier, or at the same second
		{[]api.Piece{piece(5), joined(piece(0, 1), 5), joined(piece(3), 4), piece(3)}, [][]int{{0}, {5}, nil, nil, nil}},
		{[]api.Piece{piece(5), joined(piece(0, 1), 5), joined(piece(3), 5), piece(3)}, [][]int{{0}, {5}, {5}, {8}, {11}}},
		// the bounds of the numbers in which seconds are bits
		{[]api.Piece{piece(0, 63), piece(0, 1), piece(0, 64), piece(0, 3600)}, [][]int{{0}, {0, 63}, {0, 1, 63, 64}, {0, 1, 63, 64, 65, 127, 128}, {0, 1, 63, 64, 65, 127, 128, 3600, 3601, 3663, 3664, 3665, 3727, 3728}}},
		// beyond the hour
		{[]api.Piece{piece(3600), piece(1, 3600), joined(piece(0), 3600)}, [][]int{{0}, {3600}, nil, nil}},
		{[]api.Piece{piece(3600), piece(0, 3600), joined(piece(0, 3600), 3600), piece(3600)}, [][]int{{0}, {3600}, {3600}, {3600, 7200}, {7200, 10800}}},
	} {
		for n, want := range c.want {
			if got, e := fit.Begins(c.l, n); e != api.OK || !slices.Equal(got, want) {
				t.Errorf("Begins(%v, %d) = %v, %d; want %v", c.l, n, got, e, want)
			}
		}
		oneByOne.check(t, c.l, 330)
	}
}

func TestBeginsUpToTheLatestSecond(t *testing.T) {
	l := slices.Repeat([]api.Piece{piece(0, 1, 1000, 3598, 3599, 3600)}, 20)
	for n, want := range secondBySecond.begins(l, -1) {
		got, e := fit.Begins(l, n)
		if e != api.OK || !slices.Equal(got, want) || got[len(got)-1] != 3600*n {
			t.Fatalf("Begins(%v, %d): %d seconds, %d", l, n, len(got), e)
		}
	}
	if got, e := fit.Begins(slices.Repeat([]api.Piece{piece(3600)}, 20), 20); e != api.OK || !slices.Equal(got, []int{72000}) {
		t.Errorf("Begins = %v, %d", got, e)
	}
}

func TestBeginsOfWrongIndices(t *testing.T) {
	for _, l := range [][]api.Piece{nil, example(300), example(305), slices.Repeat([]api.Piece{piece(3600)}, 20)} {
		for _, n := range extremes {
			got, e := fit.Begins(l, n)
			if 0 <= n && n <= len(l) {
				if e != api.OK {
					t.Errorf("Begins(%v, %d) = %v, %d", l, n, got, e)
				}
			} else if len(got) != 0 || e != api.ErrFit {
				t.Errorf("Begins(%v, %d) = %v, %d", l, n, got, e)
			}
		}
	}
}

// P10.1: all functions of all small lists of pieces

// smallPieces returns all pieces whose lengths are some of the numbers below most, with these Wants and Joins.
func smallPieces(most int, wants, joins []int) []api.Piece {
	var out []api.Piece
	for bits := 1; bits < 1<<most; bits++ {
		var lengths []int
		for n := range most {
			if bits>>n&1 == 1 {
				lengths = append(lengths, n)
			}
		}
		for _, want := range wants {
			for _, join := range joins {
				out = append(out, api.Piece{Lengths: lengths, Want: want, Join: join})
			}
		}
	}
	return out
}

func TestAllSmallHours(t *testing.T) {
	ones := smallPieces(4, []int{0, 1, 2, 3, 4, 3600}, []int{-1, 0, 1, 2, 3, 4, 5, 3600})
	for _, p := range ones {
		for total := range 5 {
			oneByOne.check(t, []api.Piece{p}, total)
		}
	}
	twos := smallPieces(3, []int{0, 1, 2}, []int{-1, 0, 1, 2})
	for _, p := range twos {
		for k, q := range twos {
			oneByOne.check(t, []api.Piece{p, q}, k%6)
		}
	}
	threes := smallPieces(3, []int{1}, []int{-1, 1, 2})
	for _, p := range threes {
		for _, q := range threes {
			for k, s := range threes {
				oneByOne.check(t, []api.Piece{p, q, s}, k%7)
			}
		}
	}
}

func TestRandomShortHours(t *testing.T) {
	r := rand.New(rand.NewSource(101))
	fits := 0
	for range 1500 {
		l, total, _ := anyHour(r, r.Intn(6), 4, []int{3, 12, 200, 900}[r.Intn(4)])
		oneByOne.check(t, l, total)
		for range r.Intn(3) {
			total = spoil(r, l, total)
		}
		oneByOne.check(t, l, total)
		if _, _, e := fit.Solve(l, total); e == api.OK {
			fits++
		}
	}
	if fits < 300 || fits > 1200 {
		t.Errorf("%d fit", fits)
	}
}

func TestRandomFullHours(t *testing.T) {
	r := rand.New(rand.NewSource(102))
	fits := 0
	for range 150 {
		l, total, _ := anyHour(r, 10+r.Intn(11), 8, []int{5, 60, 300}[r.Intn(3)])
		secondBySecond.check(t, l, total)
		for range r.Intn(3) {
			total = spoil(r, l, total)
		}
		secondBySecond.check(t, l, total)
		if _, _, e := fit.Solve(l, total); e == api.OK {
			fits++
		}
	}
	if fits < 30 || fits > 140 {
		t.Errorf("%d fit", fits)
	}
}

func TestTheLongestHours(t *testing.T) {
	for _, l := range [][]api.Piece{
		slices.Repeat([]api.Piece{wanting(piece(1, 2, 4, 8, 16, 32, 64, 3600), 64)}, 20),
		slices.Repeat([]api.Piece{wanting(piece(0, 179, 180, 181, 3597, 3598, 3599, 3600), 3600)}, 20),
		slices.Repeat([]api.Piece{wanting(piece(0, 600), 3600)}, 20),
		slices.Repeat([]api.Piece{wanting(piece(0), 3600)}, 20),
		slices.Repeat([]api.Piece{wanting(piece(3600), 0)}, 20),
	} {
		for _, total := range []int{0, 20, 1201, 3600} {
			secondBySecond.check(t, l, total)
		}
	}
	if lengths, cost, e := fit.Solve(slices.Repeat([]api.Piece{wanting(piece(0), 3600)}, 20), 0); e != api.OK || cost != 72000 || len(lengths) != 20 {
		t.Errorf("Solve = %v, %d, %d", lengths, cost, e)
	}
}

// P10.1: memory, and calls that do not depend on each other

// spacious returns l in memory with more capacity, for itself and for its lengths, and a function that reports whether all of this memory is as it was.
func spacious(l []api.Piece) ([]api.Piece, func() bool) {
	space := make([]api.Piece, len(l)+3)
	copy(space, copyOf(l))
	for k := range space {
		lengths := []int{-7, -7, -7}
		if k < len(l) {
			lengths = append(slices.Clone(l[k].Lengths), lengths...)
			space[k].Lengths = lengths[:len(l[k].Lengths)]
			continue
		}
		space[k] = api.Piece{Lengths: lengths, Want: -7, Join: -7}
	}
	same := func(a, b []api.Piece) bool {
		return slices.EqualFunc(a, b, func(p, q api.Piece) bool {
			return p.Want == q.Want && p.Join == q.Join && slices.Equal(p.Lengths[:cap(p.Lengths)], q.Lengths[:cap(q.Lengths)])
		})
	}
	before := slices.Clone(space)
	for k := range before {
		before[k].Lengths = slices.Clone(before[k].Lengths[:cap(before[k].Lengths)])
	}
	return space[:len(l)], func() bool { return same(space, before) }
}

func TestArgumentsAreLeftAlone(t *testing.T) {
	r := rand.New(rand.NewSource(103))
	for range 300 {
		l, total, choice := anyHour(r, 1+r.Intn(20), 8, 200)
		if r.Intn(2) == 0 {
			total = spoil(r, l, total)
		}
		l, isSame := spacious(l)
		took := append(slices.Clone(choice[:r.Intn(len(l))]), -7, -7)
		kept := slices.Clone(took)
		n := r.Intn(len(l) + 1)
		var results [3][][]int
		for k := range results {
			begins, _ := fit.Begins(l, n)
			solved, _, _ := fit.Solve(l, total)
			_, blamed, _ := fit.Blame(l, total)
			rest, _, _ := fit.Resume(l, total, took[:len(took)-2])
			fit.Check(l, total, choice)
			fit.Valid(l, total)
			for _, result := range [][]int{begins, solved, blamed, rest} {
				results[k] = append(results[k], slices.Clone(result))
				for i := range result[:cap(result)] {
					result[:cap(result)][i] = -9
				}
			}
		}
		if !isSame() || !slices.Equal(took, kept) {
			t.Fatalf("%v or %v has been changed", l, took)
		}
		for k := range results {
			if !slices.EqualFunc(results[k], results[0], slices.Equal) {
				t.Fatalf("%v: %v, and before %v", l, results[k], results[0])
			}
		}
	}
}

func FuzzFit(f *testing.F) {
	f.Add(int64(1), uint8(4), uint8(3), uint16(200), uint8(0))
	f.Add(int64(2), uint8(20), uint8(8), uint16(180), uint8(1))
	f.Add(int64(3), uint8(0), uint8(1), uint16(0), uint8(2))
	f.Fuzz(func(t *testing.T, seed int64, count, most uint8, greatest uint16, spoils uint8) {
		r := rand.New(rand.NewSource(seed))
		l, total, choice := anyHour(r, int(count)%21, 1+int(most)%8, int(greatest)%400)
		for range spoils % 4 {
			total = spoil(r, l, total)
		}
		secondBySecond.check(t, l, total)
		secondBySecond.checkResume(t, l, total, choice[:r.Intn(len(choice)+1)])
	})
}
