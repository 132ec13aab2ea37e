package num_test

import (
	"math/big"
	"slices"
	"testing"

	"recycling/api"
	"recycling/num"
)

func TestScale(t *testing.T) {
	const m = api.MaxNum
	for _, x := range []struct {
		a, b, c int
		want    [4]int
	}{
		{7, 1, 2, [4]int{3, 4, 4, 4}},
		{-7, 1, 2, [4]int{-4, -3, -4, -4}},
		{7, 1, -2, [4]int{-4, -3, -4, -4}},
		{-7, -1, -2, [4]int{-4, -3, -4, -4}},
		{-7, -1, 2, [4]int{3, 4, 4, 4}},
		{5, 1, 2, [4]int{2, 3, 3, 2}},
		{-5, 1, 2, [4]int{-3, -2, -3, -2}},
		{1, 1, 2, [4]int{0, 1, 1, 0}},
		{-1, 1, 2, [4]int{-1, 0, -1, 0}},
		{10, 10, 3, [4]int{33, 34, 33, 33}},
		{20, 1, 3, [4]int{6, 7, 7, 7}},
		{-20, 1, 3, [4]int{-7, -6, -7, -7}},
		{0, 5, -7, [4]int{0, 0, 0, 0}},
		{6, -4, 8, [4]int{-3, -3, -3, -3}},
		{1, 1, m, [4]int{0, 1, 0, 0}},
		{-1, 1, m, [4]int{-1, 0, 0, 0}},
		{m, m, m, [4]int{m, m, m, m}},
		{m, -m, m, [4]int{-m, -m, -m, -m}},
		{m, m - 1, m, [4]int{m - 1, m - 1, m - 1, m - 1}},
		{m - 1, m - 1, m, [4]int{m - 2, m - 1, m - 2, m - 2}},
	} {
		for mode, want := range x.want {
			if n, e := num.Scale(x.a, x.b, x.c, mode); n != want || e != api.OK {
				t.Errorf("Scale(%d, %d, %d, %d) = %d, %d; want %d", x.a, x.b, x.c, mode, n, e, want)
			}
		}
	}
}

// 3 * 750599937895083 / 2 is MaxNum and a half: only rounding decides whether it is in range.
func TestScaleOverflowByRounding(t *testing.T) {
	const m = api.MaxNum
	for _, x := range []struct {
		sign, mode, n int
		e             api.Errno
	}{
		{1, 0, m, api.OK}, {1, 1, 0, api.ErrOverflow}, {1, 2, 0, api.ErrOverflow}, {1, 3, m, api.OK},
		{-1, 0, 0, api.ErrOverflow}, {-1, 1, -m, api.OK}, {-1, 2, 0, api.ErrOverflow}, {-1, 3, -m, api.OK},
	} {
		if n, e := num.Scale(3*x.sign, 750599937895083, 2, x.mode); n != x.n || e != x.e {
			t.Errorf("%+v: %d, %d", x, n, e)
		}
	}
}

func TestScaleErrors(t *testing.T) {
	const m = api.MaxNum
	for _, x := range []struct {
		a, b, c, mode int
		e             api.Errno
	}{
		{1, 1, 0, 0, api.ErrRange}, {0, 0, 0, 0, api.ErrRange}, {m, m, 0, 3, api.ErrRange},
		{1, 1, 1, 4, api.ErrRange}, {1, 1, 1, -1, api.ErrRange}, {m, m, 1, 4, api.ErrRange}, {m, m, 1, -1, api.ErrRange},
		{m, 2, 1, 0, api.ErrOverflow}, {m, m, 1, 3, api.ErrOverflow}, {-m, m, -1, 2, api.ErrOverflow}, {-m, m, 1, 1, api.ErrOverflow},
		{m, 3, 2, 0, api.ErrOverflow}, {m, m, m - 1, 0, api.ErrOverflow}, {1 << 32, 1 << 32, 1, 0, api.ErrOverflow},
	} {
		if n, e := num.Scale(x.a, x.b, x.c, x.mode); n != 0 || e != x.e {
			t.Errorf("Scale(%d, %d, %d, %d) = %d, %d; want %d", x.a, x.b, x.c, x.mode, n, e, x.e)
		}
	}
	for _, bad := range outOfRange {
		for _, other := range slices.Concat(edges, outOfRange) {
			for _, x := range [][4]int{{bad, other, 1, 0}, {other, bad, 1, 1}, {other, 1, bad, 2}, {other, other, bad, 3}, {other, 1, 1, bad}} {
				if n, e := num.Scale(x[0], x[1], x[2], x[3]); n != 0 || e != api.ErrRange {
					t.Errorf("Scale%v = %d, %d; want ErrRange", x, n, e)
				}
			}
		}
	}
}

// rounded returns a * b / c, rounded by the mode as the chapter defines it, with numbers of any size.
func rounded(a, b, c, mode int) *big.Int {
	quotient := new(big.Rat).SetFrac(new(big.Int).Mul(whole(a), whole(b)), whole(c))
	// Euclidean division by a positive denominator rounds down.
	down := new(big.Int).Div(quotient.Num(), quotient.Denom())
	if quotient.IsInt() {
		return down
	}
	up := new(big.Int).Add(down, big.NewInt(1))
	fraction := new(big.Rat).Sub(quotient, new(big.Rat).SetInt(down))
	half := fraction.Cmp(big.NewRat(1, 2))
	switch {
	case mode == 0:
		return down
	case mode == 1:
		return up
	case half < 0:
		return down
	case half > 0:
		return up
	case mode == 2 && quotient.Sign() > 0:
		return up
	case mode == 2:
		return down
	case down.Bit(0) == 0:
		return down
	}
	return up
}

func checkScale(t *testing.T, a, b, c int) {
	t.Helper()
	for mode := range 4 {
		got, e := num.Scale(a, b, c, mode)
		expect(t, "Scale", []int{a, b, c, mode}, got, e, rounded(a, b, c, mode))
	}
}

func TestScaleOfSmallNumbers(t *testing.T) {
	for a := -12; a <= 12; a++ {
		for b := -6; b <= 6; b++ {
			for c := -12; c <= 12; c++ {
				if c != 0 {
					checkScale(t, a, b, c)
				}
			}
		}
	}
}

func TestScaleOfEdges(t *testing.T) {
	for _, a := range edges {
		for _, b := range edges {
			for _, c := range edges {
				if c != 0 {
					checkScale(t, a, b, c)
				}
			}
		}
	}
}

// The multiples of a large step, reduced to the range, are as good as random numbers here.
func TestScaleOfScatteredNumbers(t *testing.T) {
	state := 1
	next := func() int {
		state = state*6364136223846793005 + 1442695040888963407
		return state % (api.MaxNum + 1)
	}
	for range 3000 {
		a, b, c := next(), next(), next()
		if c == 0 {
			c = 1
		}
		checkScale(t, a, b, c)
		checkScale(t, a, b>>25, c>>20|1)
	}
}
