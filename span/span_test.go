package span_test

import (
	"math"
	"math/big"
	"slices"
	"testing"

	"recycling/api"
	"recycling/span"
)

const most = api.MaxTotal

// edges are numbers at which intervals and their arithmetic are most likely to go wrong.
var edges = []int{
	math.MinInt, math.MinInt + 1, -1 << 62, -1 << 47, -most - 1, -most, 1 - most, -most / 2, -api.MaxMass, -1000, -7, -1,
	0, 1, 3, 10, 1000, api.MaxMass - 1, api.MaxMass, api.MaxMass + 1, most/2 - 1, most / 2, most - 1, most, most + 1, 1 << 47, 1 << 62, math.MaxInt,
}

// invalid are intervals that every function refuses.
var invalid = []api.Span{
	of(1, 0), of(0, -1), of(most, -most), of(most, most-1), of(1-most, -most), of(0, most+1), of(-most-1, 0), of(-most-1, most+1), of(most+1, most+1),
	of(-most-1, -most-1), of(math.MinInt, math.MaxInt), of(math.MaxInt, math.MinInt), of(math.MinInt, math.MinInt), of(math.MaxInt, math.MaxInt), of(0, math.MaxInt), of(math.MinInt, 0),
}

// extremes are valid intervals with ends at or close to the bounds.
var extremes = []api.Span{
	of(0, 0), of(-1, 1), of(1, 7), of(-9, -3), of(most, most), of(-most, -most), of(-most, most), of(1-most, most-1), of(most-1, most), of(-most, 1-most), of(0, most), of(-most, 0), of(most/2, most/2), of(-most/2, most/2), of(-most/2-1, most/2+1),
}

func of(lo, hi int) api.Span {
	return api.Span{Lo: lo, Hi: hi}
}

// small returns all valid intervals with ends from -n to n.
func small(n int) []api.Span {
	var l []api.Span
	for lo := -n; lo <= n; lo++ {
		for hi := lo; hi <= n; hi++ {
			l = append(l, of(lo, hi))
		}
	}
	return l
}

// bounded returns the interval from lo to hi, or ErrOverflow if it has an end that is not allowed.
func bounded(lo, hi int) (api.Span, api.Errno) {
	if lo < -most || hi > most {
		return api.Span{}, api.ErrOverflow
	}
	return of(lo, hi), api.OK
}

type binary func(api.Span, api.Span) (api.Span, api.Errno)

var binaries = map[string]binary{"Add": span.Add, "Sub": span.Sub, "Meet": span.Meet, "Hull": span.Hull}

func TestValid(t *testing.T) {
	for _, lo := range edges {
		for _, hi := range edges {
			want := -most <= lo && lo <= hi && hi <= most
			if got := span.Valid(of(lo, hi)); got != want {
				t.Errorf("Valid({%d, %d}) = %v", lo, hi, got)
			}
		}
	}
	for _, s := range extremes {
		if !span.Valid(s) {
			t.Errorf("%v is not valid", s)
		}
	}
	for _, s := range invalid {
		if span.Valid(s) {
			t.Errorf("%v is valid", s)
		}
	}
}

func TestHas(t *testing.T) {
	for _, s := range slices.Concat(small(4), extremes) {
		for _, x := range slices.Concat(edges, []int{-5, -4, -3, -2, 2, 4, 5, s.Lo - 1, s.Lo, s.Lo + 1, s.Hi - 1, s.Hi, s.Hi + 1}) {
			if got := span.Has(s, x); got != (s.Lo <= x && x <= s.Hi) {
				t.Errorf("Has(%v, %d) = %v", s, x, got)
			}
		}
	}
	for _, s := range invalid {
		for _, x := range slices.Concat(edges, []int{s.Lo, s.Hi}) {
			if span.Has(s, x) {
				t.Errorf("Has(%v, %d) is true, but the interval is not valid", s, x)
			}
		}
	}
}

func TestAddAndSub(t *testing.T) {
	for _, x := range []struct {
		name string
		call binary
		a, b api.Span
		want api.Span
		e    api.Errno
	}{
		{"Add", span.Add, of(1, 2), of(10, 20), of(11, 22), api.OK},
		{"Sub", span.Sub, of(1, 2), of(10, 20), of(-19, -8), api.OK},
		{"Add", span.Add, of(most-1, most-1), of(1, 1), of(most, most), api.OK},
		{"Add", span.Add, of(0, most), of(0, 1), of(0, 0), api.ErrOverflow},
		{"Add", span.Add, of(1-most, 0), of(-1, 0), of(-most, 0), api.OK},
		{"Add", span.Add, of(-most, 0), of(-1, 0), of(0, 0), api.ErrOverflow},
		{"Add", span.Add, of(-most, most), of(0, 0), of(-most, most), api.OK},
		{"Sub", span.Sub, of(0, most-1), of(-1, 0), of(0, most), api.OK},
		{"Sub", span.Sub, of(0, most), of(-1, 0), of(0, 0), api.ErrOverflow},
		{"Sub", span.Sub, of(1-most, 0), of(0, 1), of(-most, 0), api.OK},
		{"Sub", span.Sub, of(-most, 0), of(0, 1), of(0, 0), api.ErrOverflow},
		{"Sub", span.Sub, of(most, most), of(most, most), of(0, 0), api.OK},
	} {
		if s, e := x.call(x.a, x.b); s != x.want || e != x.e {
			t.Errorf("%s(%v, %v) = %v, %d; want %v, %d", x.name, x.a, x.b, s, e, x.want, x.e)
		}
	}
	for _, a := range extremes {
		for _, b := range extremes {
			want, wantError := bounded(a.Lo+b.Lo, a.Hi+b.Hi)
			if s, e := span.Add(a, b); s != want || e != wantError {
				t.Errorf("Add(%v, %v) = %v, %d; want %v, %d", a, b, s, e, want, wantError)
			}
			want, wantError = bounded(a.Lo-b.Hi, a.Hi-b.Lo)
			if s, e := span.Sub(a, b); s != want || e != wantError {
				t.Errorf("Sub(%v, %v) = %v, %d; want %v, %d", a, b, s, e, want, wantError)
			}
		}
	}
}

// An interval that is not valid gives ErrRange also where another error applies.
func TestInvalidIntervals(t *testing.T) {
	for name, call := range binaries {
		for _, bad := range invalid {
			for _, other := range slices.Concat(extremes, invalid) {
				for _, args := range [][2]api.Span{{bad, other}, {other, bad}} {
					if s, e := call(args[0], args[1]); s != of(0, 0) || e != api.ErrRange {
						t.Errorf("%s%v = %v, %d; want ErrRange", name, args, s, e)
					}
				}
			}
		}
	}
	for _, bad := range invalid {
		for _, by := range []int{0, 1, most, most + 1, -1} {
			if s, e := span.Widen(bad, by); s != of(0, 0) || e != api.ErrRange {
				t.Errorf("Widen(%v, %d) = %v, %d; want ErrRange", bad, by, s, e)
			}
		}
		for _, n := range []int{0, 1, 3} {
			if s, e := span.Part(bad, n, 3); s != of(0, 0) || e != api.ErrRange {
				t.Errorf("Part(%v, %d, 3) = %v, %d; want ErrRange", bad, n, s, e)
			}
		}
		for _, l := range [][]api.Span{{bad}, {bad, of(1, 2)}, {of(1, 2), bad}, {of(most, most), of(most, most), bad}, {of(0, 0), bad, of(-most, most), of(-1, 1)}} {
			if s, e := span.Sum(l); s != of(0, 0) || e != api.ErrRange {
				t.Errorf("Sum(%v) = %v, %d; want ErrRange", l, s, e)
			}
		}
	}
}

func TestSum(t *testing.T) {
	for _, x := range []struct {
		l    []api.Span
		want api.Span
		e    api.Errno
	}{
		{nil, of(0, 0), api.OK},
		{[]api.Span{}, of(0, 0), api.OK},
		{[]api.Span{of(3, 5)}, of(3, 5), api.OK},
		{[]api.Span{of(-5, -3)}, of(-5, -3), api.OK},
		{[]api.Span{of(1, 2), of(3, 4), of(-1, 0)}, of(3, 6), api.OK},
		{[]api.Span{of(most, most)}, of(most, most), api.OK},
		{[]api.Span{of(-most, most), of(0, 0)}, of(-most, most), api.OK},
		{[]api.Span{of(0, most), of(0, 1)}, of(0, 0), api.ErrOverflow},
		{[]api.Span{of(-most, 0), of(-1, 0)}, of(0, 0), api.ErrOverflow},
		{[]api.Span{of(most, most), of(most, most), of(-most, -most)}, of(most, most), api.OK},
		{[]api.Span{of(-most, -most), of(-1, -1), of(1, 1)}, of(-most, -most), api.OK},
		{[]api.Span{of(most, most), of(0, 1), of(-1, -1)}, of(most-1, most), api.OK},
	} {
		kept := slices.Clone(x.l)
		if s, e := span.Sum(x.l); s != x.want || e != x.e {
			t.Errorf("Sum(%v) = %v, %d; want %v, %d", x.l, s, e, x.want, x.e)
		}
		if !slices.Equal(kept, x.l) {
			t.Errorf("Sum changed its argument from %v to %v", kept, x.l)
		}
	}
}

func repeated(s api.Span, times int) []api.Span {
	return slices.Repeat([]api.Span{s}, times)
}

func TestSumOfMany(t *testing.T) {
	const full = 65536
	for _, x := range []struct {
		name string
		l    []api.Span
		want api.Span
		e    api.Errno
	}{
		{"as many as allowed", repeated(of(-1, 2), full), of(-full, 2*full), api.OK},
		{"the largest result", repeated(of(-most/full, most/full), full), of(-most, most), api.OK},
		{"one gram too much", slices.Concat(repeated(of(0, most/full), full-1), []api.Span{of(0, most/full+1)}), of(0, 0), api.ErrOverflow},
		{"the largest partial sum", slices.Concat(repeated(of(most, most), full/2), repeated(of(-most, -most), full/2)), of(0, 0), api.OK},
		{"the least partial sum", slices.Concat(repeated(of(-most, -most), full/2), repeated(of(most, most), full/2)), of(0, 0), api.OK},
		{"the largest sum", repeated(of(most, most), full), of(0, 0), api.ErrOverflow},
		{"the least sum", repeated(of(-most, -most), full), of(0, 0), api.ErrOverflow},
		{"the widest sum", repeated(of(-most, most), full), of(0, 0), api.ErrOverflow},
		{"an invalid one at the end", slices.Concat(repeated(of(most, most), full-1), []api.Span{of(1, 0)}), of(0, 0), api.ErrRange},
		{"one too many", repeated(of(0, 0), full+1), of(0, 0), api.ErrFull},
		{"too many, and too large", repeated(of(most, most), full+1), of(0, 0), api.ErrFull},
		{"too many, and invalid", repeated(of(1, 0), full+1), of(0, 0), api.ErrFull},
		{"many too many", repeated(of(most, most), 3*full), of(0, 0), api.ErrFull},
	} {
		if s, e := span.Sum(x.l); s != x.want || e != x.e {
			t.Errorf("%s: Sum = %v, %d; want %v, %d", x.name, s, e, x.want, x.e)
		}
	}
}

func TestMeetAndHull(t *testing.T) {
	for _, x := range []struct {
		a, b, meet api.Span
		e          api.Errno
		hull       api.Span
	}{
		{of(1, 5), of(4, 9), of(4, 5), api.OK, of(1, 9)},
		{of(1, 4), of(4, 9), of(4, 4), api.OK, of(1, 9)},
		{of(1, 3), of(4, 9), of(0, 0), api.ErrEmpty, of(1, 9)},
		{of(1, 9), of(4, 5), of(4, 5), api.OK, of(1, 9)},
		{of(3, 3), of(3, 3), of(3, 3), api.OK, of(3, 3)},
		{of(-7, -2), of(2, 7), of(0, 0), api.ErrEmpty, of(-7, 7)},
		{of(-most, -most), of(most, most), of(0, 0), api.ErrEmpty, of(-most, most)},
		{of(-most, 0), of(0, most), of(0, 0), api.OK, of(-most, most)},
		{of(-most, most), of(most, most), of(most, most), api.OK, of(-most, most)},
	} {
		for _, args := range [][2]api.Span{{x.a, x.b}, {x.b, x.a}} {
			if s, e := span.Meet(args[0], args[1]); s != x.meet || e != x.e {
				t.Errorf("Meet%v = %v, %d; want %v, %d", args, s, e, x.meet, x.e)
			}
			if s, e := span.Hull(args[0], args[1]); s != x.hull || e != api.OK {
				t.Errorf("Hull%v = %v, %d; want %v", args, s, e, x.hull)
			}
		}
	}
}

func TestWiden(t *testing.T) {
	for _, x := range []struct {
		s    api.Span
		by   int
		want api.Span
		e    api.Errno
	}{
		{of(4, 5), 2, of(2, 7), api.OK},
		{of(4, 5), 0, of(4, 5), api.OK},
		{of(-most, most), 0, of(-most, most), api.OK},
		{of(0, 0), most, of(-most, most), api.OK},
		{of(1-most, most-1), 1, of(-most, most), api.OK},
		{of(0, most-1), 2, of(0, 0), api.ErrOverflow},
		{of(1-most, 0), 2, of(0, 0), api.ErrOverflow},
		{of(-most, most), most, of(0, 0), api.ErrOverflow},
		{of(4, 5), -1, of(0, 0), api.ErrRange},
		{of(4, 9), -2, of(0, 0), api.ErrRange},
		{of(0, 0), most + 1, of(0, 0), api.ErrRange},
		{of(0, most), most + 1, of(0, 0), api.ErrRange},
		{of(0, 0), math.MaxInt, of(0, 0), api.ErrRange},
		{of(0, 0), math.MinInt, of(0, 0), api.ErrRange},
	} {
		if s, e := span.Widen(x.s, x.by); s != x.want || e != x.e {
			t.Errorf("Widen(%v, %d) = %v, %d; want %v, %d", x.s, x.by, s, e, x.want, x.e)
		}
	}
}

func TestPart(t *testing.T) {
	const mass = api.MaxMass
	for _, x := range []struct {
		s    api.Span
		n, d int
		want api.Span
		e    api.Errno
	}{
		{of(10, 11), 1, 3, of(3, 4), api.OK},
		{of(-10, -1), 1, 3, of(-4, 0), api.OK},
		{of(9, 12), 1, 3, of(3, 4), api.OK},
		{of(-12, -9), 1, 3, of(-4, -3), api.OK},
		{of(10, 10), 1, 3, of(3, 4), api.OK},
		{of(-7, 7), 0, 5, of(0, 0), api.OK},
		{of(-7, 7), 5, 5, of(-7, 7), api.OK},
		{of(-7, 7), 0, 1, of(0, 0), api.OK},
		{of(-most, most), mass, mass, of(-most, most), api.OK},
		{of(-most, most), 1, mass, of(-1<<16, 1<<16), api.OK},
		{of(1-most, most-1), 1, mass, of(-1<<16, 1<<16), api.OK},
		{of(-1, 1), mass - 1, mass, of(-1, 1), api.OK},
		{of(1, 1), 1, 0, of(0, 0), api.ErrRange},
		{of(1, 1), 0, 0, of(0, 0), api.ErrRange},
		{of(1, 1), -1, -1, of(0, 0), api.ErrRange},
		{of(1, 1), 0, -1, of(0, 0), api.ErrRange},
		{of(1, 1), 4, 3, of(0, 0), api.ErrRange},
		{of(1, 1), -1, 3, of(0, 0), api.ErrRange},
		{of(1, 1), 1, mass + 1, of(0, 0), api.ErrRange},
		{of(1, 1), math.MinInt, 3, of(0, 0), api.ErrRange},
		{of(1, 1), math.MaxInt, math.MaxInt, of(0, 0), api.ErrRange},
		{of(1, 1), 0, math.MinInt, of(0, 0), api.ErrRange},
	} {
		if s, e := span.Part(x.s, x.n, x.d); s != x.want || e != x.e {
			t.Errorf("Part(%v, %d, %d) = %v, %d; want %v, %d", x.s, x.n, x.d, s, e, x.want, x.e)
		}
	}
}

// scaled returns x * n / d, rounded down.
func scaled(x, n, d int) int {
	product := new(big.Int).Mul(big.NewInt(int64(x)), big.NewInt(int64(n)))
	// Div rounds towards lesser numbers, as d is positive.
	return int(product.Div(product, big.NewInt(int64(d))).Int64())
}

func TestPartIsExact(t *testing.T) {
	const mass = api.MaxMass
	for _, s := range slices.Concat(extremes, []api.Span{of(-70368744177663, 70368744177661), of(-12345678901234, 43210987654321), of(-mass-1, mass-1)}) {
		for _, d := range []int{1, 2, 3, 7, 1000, 65535, 65537, mass/2 + 1, 1073741789, mass - 1, mass} {
			for _, n := range []int{0, 1, d / 3, d / 2, d - 1, d} {
				want := of(scaled(s.Lo, n, d), -scaled(-s.Hi, n, d))
				if got, e := span.Part(s, n, d); got != want || e != api.OK {
					t.Errorf("Part(%v, %d, %d) = %v, %d; want %v", s, n, d, got, e, want)
				}
			}
		}
	}
}

// members returns the members of a small interval, as a set.
func members(s api.Span) map[int]bool {
	set := map[int]bool{}
	for x := s.Lo; x <= s.Hi; x++ {
		set[x] = true
	}
	return set
}

// reached returns all results that f has for a member of a and one of b.
func reached(a, b api.Span, f func(x, y int) int) map[int]bool {
	set := map[int]bool{}
	for x := a.Lo; x <= a.Hi; x++ {
		for y := b.Lo; y <= b.Hi; y++ {
			set[f(x, y)] = true
		}
	}
	return set
}

func same(a, b map[int]bool) bool {
	for x := range a {
		if !b[x] {
			return false
		}
	}
	return len(a) == len(b)
}

// The members of a sum and of a difference are those of the true values, no more and no fewer.
func TestSumsAreSoundAndExact(t *testing.T) {
	for _, a := range small(4) {
		for _, b := range small(4) {
			sum, e := span.Add(a, b)
			if e != api.OK || !same(members(sum), reached(a, b, func(x, y int) int { return x + y })) {
				t.Errorf("Add(%v, %v) = %v, %d", a, b, sum, e)
			}
			difference, e := span.Sub(a, b)
			if e != api.OK || !same(members(difference), reached(a, b, func(x, y int) int { return x - y })) {
				t.Errorf("Sub(%v, %v) = %v, %d", a, b, difference, e)
			}
		}
	}
}

func TestMeetAndHullAreExact(t *testing.T) {
	for _, a := range small(4) {
		for _, b := range small(4) {
			inBoth := members(a)
			for x := range inBoth {
				if !span.Has(b, x) {
					delete(inBoth, x)
				}
			}
			met, e := span.Meet(a, b)
			if len(inBoth) == 0 {
				if met != of(0, 0) || e != api.ErrEmpty {
					t.Errorf("Meet(%v, %v) = %v, %d; want ErrEmpty", a, b, met, e)
				}
			} else if e != api.OK || !same(members(met), inBoth) {
				t.Errorf("Meet(%v, %v) = %v, %d", a, b, met, e)
			}
			if s, e := span.Hull(a, b); e != api.OK || !isHull(s, a, b) {
				t.Errorf("Hull(%v, %v) = %v, %d", a, b, s, e)
			}
		}
	}
}

// isHull tells whether s contains a and b, and has ends of them.
func isHull(s, a, b api.Span) bool {
	for _, x := range []int{a.Lo, a.Hi, b.Lo, b.Hi} {
		if x < s.Lo || x > s.Hi {
			return false
		}
	}
	return (s.Lo == a.Lo || s.Lo == b.Lo) && (s.Hi == a.Hi || s.Hi == b.Hi)
}

func TestPartIsSound(t *testing.T) {
	for _, s := range small(9) {
		for d := 1; d <= 7; d++ {
			for n := 0; n <= d; n++ {
				part, e := span.Part(s, n, d)
				if e != api.OK {
					t.Fatalf("Part(%v, %d, %d) gives %d", s, n, d, e)
				}
				for x := s.Lo; x <= s.Hi; x++ {
					if !span.Has(part, scaled(x, n, d)) || !span.Has(part, -scaled(-x, n, d)) {
						t.Errorf("Part(%v, %d, %d) = %v lacks the part of %d", s, n, d, part, x)
					}
				}
				if part != of(scaled(s.Lo, n, d), -scaled(-s.Hi, n, d)) {
					t.Errorf("Part(%v, %d, %d) = %v is too wide", s, n, d, part)
				}
			}
		}
	}
}

// permutations returns l in all orders.
func permutations(l []api.Span) [][]api.Span {
	if len(l) == 0 {
		return [][]api.Span{nil}
	}
	var all [][]api.Span
	for i := range l {
		others := slices.Concat(l[:i], l[i+1:])
		for _, p := range permutations(others) {
			all = append(all, append(p, l[i]))
		}
	}
	return all
}

func TestSumIsFreeOfOrder(t *testing.T) {
	for _, l := range [][]api.Span{
		{of(1, 2), of(-9, 4), of(0, 100), of(-5, -5), of(7, 7)},
		{of(most, most), of(most, most), of(-most, -most), of(-1, 1), of(-most, -1)},
		{of(most, most), of(most, most), of(-1, 1), of(-7, -7), of(0, 0)},
		{of(most, most), of(-1, most), of(2, 1), of(-most, most), of(0, 3)},
	} {
		want, wantError := span.Sum(l)
		for _, p := range permutations(l) {
			if s, e := span.Sum(p); s != want || e != wantError {
				t.Errorf("Sum(%v) = %v, %d; of %v it is %v, %d", p, s, e, l, want, wantError)
			}
		}
	}
}

func TestSumOfTwoLists(t *testing.T) {
	l := slices.Concat(extremes, small(2))
	compared := 0
	for cut := range len(l) + 1 {
		for from := range cut + 1 {
			a, errorA := span.Sum(l[from:cut])
			b, errorB := span.Sum(l[cut:])
			whole, e := span.Sum(l[from:])
			sum, errorSum := span.Add(a, b)
			if errorA != api.OK || errorB != api.OK || e != api.OK || errorSum != api.OK {
				continue
			}
			compared++
			if whole != sum {
				t.Errorf("Sum of %d to the end is %v, that of the lists cut at %d is %v", from, whole, cut, sum)
			}
		}
	}
	if compared < 100 {
		t.Errorf("only %d pairs of lists were compared", compared)
	}
}
