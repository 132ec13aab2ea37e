package clock_test

import (
	"math"
	"slices"
	"testing"

	"recycling/api"
	"recycling/clock"
)

const end = api.MaxTime + 1

// invalid are windows that Merge and Common refuse.
var invalid = []api.Window{
	win(3, 2), win(1, 0), win(-1, 2), win(-1, -1), win(-2, -1), win(0, -1), win(0, end+1), win(end, end+1), win(end+1, end+1), win(end, 0), win(end, end-1), win(end+1, end),
	win(math.MinInt, math.MaxInt), win(math.MaxInt, math.MinInt), win(math.MinInt, math.MinInt), win(math.MaxInt, math.MaxInt), win(0, math.MaxInt), win(math.MinInt, 0), win(0, math.MinInt), win(math.MaxInt, 0),
}

func win(from, to int) api.Window {
	return api.Window{From: from, To: to}
}

func windows(l ...api.Window) []api.Window {
	return l
}

// small returns all valid windows with numbers from base to base + n.
func small(base, n int) []api.Window {
	var l []api.Window
	for from := range n + 1 {
		for to := from; to <= n; to++ {
			l = append(l, win(base+from, base+to))
		}
	}
	return l
}

// lists returns all lists of at most n elements of l.
func lists(l []api.Window, n int) [][]api.Window {
	all := [][]api.Window{nil}
	for from := 0; n > 0; n-- {
		until := len(all)
		for _, shorter := range all[from:until] {
			for _, w := range l {
				all = append(all, append(slices.Clone(shorter), w))
			}
		}
		from = until
	}
	return all
}

// moments returns a bit for each of the moments from base to base + 62 that a window of l contains.
func moments(l []api.Window, base int) int {
	bits := 0
	for i := range 63 {
		for _, w := range l {
			if w.From <= base+i && base+i < w.To {
				bits |= 1 << i
			}
		}
	}
	return bits
}

// inForm tells whether l has the form of Merge.
func inForm(l []api.Window) bool {
	for i, w := range l {
		if w.From < 0 || w.From >= w.To || w.To > end || i > 0 && l[i-1].To >= w.From {
			return false
		}
	}
	return true
}

func TestMerge(t *testing.T) {
	for _, x := range []struct{ l, want []api.Window }{
		{nil, nil},
		{windows(), nil},
		{windows(win(5, 9), win(0, 5), win(7, 7), win(20, 30)), windows(win(0, 9), win(20, 30))},
		{windows(win(3, 3)), nil},
		{windows(win(3, 3), win(0, 0), win(end, end)), nil},
		{windows(win(0, end)), windows(win(0, end))},
		{windows(win(end-1, end)), windows(win(end-1, end))},
		{windows(win(0, 1)), windows(win(0, 1))},
		{windows(win(2, 4), win(4, 6)), windows(win(2, 6))},
		{windows(win(4, 6), win(2, 4)), windows(win(2, 6))},
		{windows(win(2, 4), win(5, 6)), windows(win(2, 4), win(5, 6))},
		{windows(win(2, 4), win(4, 4), win(5, 6)), windows(win(2, 4), win(5, 6))},
		{windows(win(0, 10), win(2, 3), win(9, 12), win(12, 13)), windows(win(0, 13))},
		{windows(win(0, 10), win(2, 3), win(5, 6), win(11, 12)), windows(win(0, 10), win(11, 12))},
		{windows(win(8, 9), win(6, 7), win(4, 5), win(2, 3), win(0, 1)), windows(win(0, 1), win(2, 3), win(4, 5), win(6, 7), win(8, 9))},
		{windows(win(1, 2), win(1, 5), win(1, 3), win(1, 5)), windows(win(1, 5))},
		{windows(win(end-5, end), win(0, end-5)), windows(win(0, end))},
		{windows(win(100000, 200000), win(0, 86400), win(150000, 3000000000)), windows(win(0, 86400), win(100000, 3000000000))},
	} {
		kept := slices.Clone(x.l)
		got, e := clock.Merge(x.l)
		if !slices.Equal(got, x.want) || e != api.OK {
			t.Errorf("Merge(%v) = %v, %d; want %v", x.l, got, e, x.want)
		}
		if !slices.Equal(kept, x.l) {
			t.Errorf("Merge changed its argument from %v to %v", kept, x.l)
		}
	}
}

// Merge returns the form of the union, whatever the order of the windows, and however often they occur.
func TestMergeIsTheUnion(t *testing.T) {
	for _, base := range []int{0, 1000, end - 5} {
		unions := map[int][]api.Window{}
		for _, l := range lists(small(base, 5), 3) {
			got, e := clock.Merge(l)
			bits := moments(l, base)
			if e != api.OK || !inForm(got) || moments(got, base) != bits {
				t.Errorf("Merge(%v) = %v, %d", l, got, e)
			}
			union, known := unions[bits]
			if known && !slices.Equal(got, union) {
				t.Errorf("Merge(%v) = %v; of a list with the same moments it is %v", l, got, union)
			}
			unions[bits] = got
			twice, e := clock.Merge(slices.Concat(l, l))
			if !slices.Equal(twice, got) || e != api.OK {
				t.Errorf("Merge of twice %v = %v, %d; want %v", l, twice, e, got)
			}
			again, e := clock.Merge(got)
			if !slices.Equal(again, got) || e != api.OK {
				t.Errorf("Merge(%v) = %v, %d; want the same", got, again, e)
			}
			for at := base - 1; at <= base+6; at++ {
				if clock.Inside(got, at) != clock.Inside(l, at) {
					t.Errorf("Merge(%v) = %v, which differs at %d", l, got, at)
				}
			}
		}
	}
}

func TestInvalidWindows(t *testing.T) {
	good := [][]api.Window{nil, windows(win(0, 1)), windows(win(0, end)), windows(win(5, 5)), windows(win(5, 9), win(0, 5))}
	check := func(what string, l []api.Window, e api.Errno) {
		if len(l) != 0 || e != api.ErrRange {
			t.Errorf("%s = %v, %d; want ErrRange", what, l, e)
		}
	}
	for _, w := range invalid {
		for _, g := range good {
			for _, bad := range [][]api.Window{slices.Concat(g, windows(w)), slices.Concat(windows(w), g), slices.Concat(g, windows(w), g)} {
				l, e := clock.Merge(bad)
				check("Merge of a list with an invalid window", l, e)
				for _, other := range append(good, bad) {
					l, e = clock.Common(bad, other)
					check("Common with an invalid window in a", l, e)
					l, e = clock.Common(other, bad)
					check("Common with an invalid window in b", l, e)
				}
			}
		}
	}
}

func TestManyWindows(t *testing.T) {
	const n = 1 << 20
	apart := make([]api.Window, n)
	touching := make([]api.Window, n)
	for i := range n {
		at := n - 1 - i
		apart[i] = win(3*at, 3*at+2)
		touching[i] = win(3*(at*7%n), 3*(at*7%n)+3)
	}
	merged, e := clock.Merge(apart)
	if len(merged) != n || !inForm(merged) || merged[1] != win(3, 5) || e != api.OK {
		t.Errorf("Merge of %d windows returns %d, %d", n, len(merged), e)
	}
	if l, e := clock.Merge(touching); !slices.Equal(l, windows(win(0, 3*n))) || e != api.OK {
		t.Errorf("Merge of %d windows that touch returns %d, %d", n, len(l), e)
	}
	if l, e := clock.Common(apart, touching); !slices.Equal(l, merged) || e != api.OK {
		t.Errorf("Common of lists of %d windows returns %d, %d", n, len(l), e)
	}
}

func TestInside(t *testing.T) {
	for _, x := range []struct {
		l    []api.Window
		t    int
		want bool
	}{
		{nil, 0, false},
		{windows(), 5, false},
		{windows(win(5, 9)), 4, false}, {windows(win(5, 9)), 5, true}, {windows(win(5, 9)), 8, true}, {windows(win(5, 9)), 9, false},
		{windows(win(5, 5)), 5, false}, {windows(win(9, 5)), 7, false}, {windows(win(9, 5)), 5, false}, {windows(win(9, 5)), 9, false},
		{windows(win(5, 9), win(0, 2)), 1, true}, {windows(win(0, 2), win(5, 9)), 8, true}, {windows(win(0, 2), win(5, 9)), 3, false},
		{windows(win(9, 5), win(6, 8)), 7, true}, {windows(win(6, 8), win(9, 5)), 7, true},
		{windows(win(-9, -5)), -9, true}, {windows(win(-9, -5)), -5, false}, {windows(win(-9, 5)), -1, true},
		{windows(win(0, end)), api.MaxTime, true}, {windows(win(0, end)), end, false}, {windows(win(0, end+5)), end + 4, true}, {windows(win(end, end+5)), end + 5, false},
		{windows(win(math.MinInt, math.MaxInt)), math.MinInt, true}, {windows(win(math.MinInt, math.MaxInt)), 0, true},
		{windows(win(math.MinInt, math.MaxInt)), math.MaxInt - 1, true}, {windows(win(math.MinInt, math.MaxInt)), math.MaxInt, false},
		{windows(win(math.MaxInt, math.MinInt)), 0, false}, {windows(win(math.MaxInt, math.MinInt)), math.MaxInt, false},
	} {
		if got := clock.Inside(x.l, x.t); got != x.want {
			t.Errorf("Inside(%v, %d) = %v", x.l, x.t, got)
		}
	}
	numbers := []int{math.MinInt, math.MinInt + 1, -2, -1, 0, 1, 2, 3, end - 1, end, end + 1, math.MaxInt - 1, math.MaxInt}
	for _, from := range numbers {
		for _, to := range numbers {
			for _, at := range numbers {
				if got := clock.Inside(windows(win(from, to)), at); got != (from <= at && at < to) {
					t.Errorf("Inside({%d, %d}, %d) = %v", from, to, at, got)
				}
			}
		}
	}
}

func TestCommon(t *testing.T) {
	for _, x := range []struct{ a, b, want []api.Window }{
		{nil, nil, nil},
		{windows(win(0, end)), nil, nil},
		{windows(win(0, 10), win(20, 30)), windows(win(5, 25)), windows(win(5, 10), win(20, 25))},
		{windows(win(20, 30), win(0, 10)), windows(win(5, 25)), windows(win(5, 10), win(20, 25))},
		{windows(win(0, 10)), windows(win(10, 20)), nil},
		{windows(win(0, 10)), windows(win(9, 20)), windows(win(9, 10))},
		{windows(win(0, 10)), windows(win(5, 5)), nil},
		{windows(win(0, 5), win(5, 10)), windows(win(2, 7)), windows(win(2, 7))},
		{windows(win(0, 5), win(6, 10)), windows(win(0, 5), win(6, 10)), windows(win(0, 5), win(6, 10))},
		{windows(win(0, 2), win(4, 6), win(8, 10)), windows(win(1, 5), win(5, 9)), windows(win(1, 2), win(4, 6), win(8, 9))},
		{windows(win(0, end)), windows(win(end-1, end), win(0, 1)), windows(win(0, 1), win(end-1, end))},
		{windows(win(0, end)), windows(win(0, end)), windows(win(0, end))},
		{windows(win(5, 5), win(9, 9)), windows(win(0, end)), nil},
	} {
		for _, args := range [][2][]api.Window{{x.a, x.b}, {x.b, x.a}} {
			a, b := slices.Clone(args[0]), slices.Clone(args[1])
			got, e := clock.Common(args[0], args[1])
			if !slices.Equal(got, x.want) || e != api.OK {
				t.Errorf("Common(%v, %v) = %v, %d; want %v", a, b, got, e, x.want)
			}
			if !slices.Equal(a, args[0]) || !slices.Equal(b, args[1]) {
				t.Errorf("Common changed its arguments from %v and %v to %v", a, b, args)
			}
		}
	}
}

func TestCommonIsTheIntersection(t *testing.T) {
	for _, base := range []int{0, end - 4} {
		all := lists(small(base, 4), 2)
		for _, a := range all {
			for _, b := range all {
				got, e := clock.Common(a, b)
				if e != api.OK || !inForm(got) || moments(got, base) != moments(a, base)&moments(b, base) {
					t.Errorf("Common(%v, %v) = %v, %d", a, b, got, e)
				}
				if swapped, e := clock.Common(b, a); !slices.Equal(swapped, got) || e != api.OK {
					t.Errorf("Common(%v, %v) = %v, %d; want %v", b, a, swapped, e, got)
				}
			}
		}
	}
}

// Results are new memory: what is done to them is not seen in the arguments.
func TestResultsAreNew(t *testing.T) {
	l := windows(win(0, 5), win(10, 15))
	merged, _ := clock.Merge(l)
	common, _ := clock.Common(l, l)
	for _, result := range [][]api.Window{merged, common} {
		for i := range result {
			result[i] = win(-1, -1)
		}
		if !slices.Equal(l, windows(win(0, 5), win(10, 15))) {
			t.Errorf("a result shares memory with an argument: %v", l)
		}
	}
}
