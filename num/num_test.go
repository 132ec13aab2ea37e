package num_test

import (
	"math"
	"math/big"
	"slices"
	"testing"

	"recycling/api"
	"recycling/num"
)

// outOfRange are arguments that every function refuses.
var outOfRange = []int{api.MaxNum + 1, -api.MaxNum - 1, math.MaxInt, math.MinInt, math.MinInt + 1, 1 << 62, -1 << 62}

// edges are numbers in range at which arithmetic is most likely to go wrong.
var edges = []int{
	0, 1, -1, 2, -2, 3, -3, 5, 7, -10, 1000, -1001, 1<<25 - 1, 1 << 25, -1 << 25, 1<<25 + 1, 33554467, 1<<26 - 1,
	1<<49 - 1, 1 << 49, -1 << 49, 1<<49 + 1, 750599937895083, api.MaxNum - 1, 1 - api.MaxNum, api.MaxNum, -api.MaxNum,
}

type binary func(int, int) (int, api.Errno)

// expect checks a result against its exact value: a value that is not in range must be reported as ErrOverflow.
func expect(t *testing.T, call string, args []int, got int, e api.Errno, exact *big.Int) {
	t.Helper()
	if exact.CmpAbs(big.NewInt(api.MaxNum)) > 0 {
		if got != 0 || e != api.ErrOverflow {
			t.Errorf("%s%v = %d, %d; want ErrOverflow", call, args, got, e)
		}
		return
	}
	if int64(got) != exact.Int64() || e != api.OK {
		t.Errorf("%s%v = %d, %d; want %s", call, args, got, e, exact)
	}
}

func whole(n int) *big.Int {
	return big.NewInt(int64(n))
}

func TestArithmetic(t *testing.T) {
	for _, f := range []struct {
		name  string
		call  binary
		exact func(z, a, b *big.Int) *big.Int
	}{{"Add", num.Add, (*big.Int).Add}, {"Sub", num.Sub, (*big.Int).Sub}, {"Mul", num.Mul, (*big.Int).Mul}} {
		for _, a := range edges {
			for _, b := range edges {
				got, e := f.call(a, b)
				expect(t, f.name, []int{a, b}, got, e, f.exact(new(big.Int), whole(a), whole(b)))
			}
		}
	}
}

func TestArithmeticAtTheBounds(t *testing.T) {
	for _, x := range []struct {
		name    string
		call    binary
		a, b, n int
		e       api.Errno
	}{
		{"Add", num.Add, 2, 3, 5, api.OK},
		{"Add", num.Add, api.MaxNum - 1, 1, api.MaxNum, api.OK},
		{"Add", num.Add, api.MaxNum, 1, 0, api.ErrOverflow},
		{"Add", num.Add, 1 - api.MaxNum, -1, -api.MaxNum, api.OK},
		{"Add", num.Add, -api.MaxNum, -1, 0, api.ErrOverflow},
		{"Add", num.Add, api.MaxNum + 1, -1, 0, api.ErrRange},
		{"Sub", num.Sub, 2, 3, -1, api.OK},
		{"Sub", num.Sub, 1 - api.MaxNum, 1, -api.MaxNum, api.OK},
		{"Sub", num.Sub, -api.MaxNum, 1, 0, api.ErrOverflow},
		{"Sub", num.Sub, api.MaxNum, -1, 0, api.ErrOverflow},
		{"Sub", num.Sub, api.MaxNum + 1, 1, 0, api.ErrRange},
		{"Mul", num.Mul, -2, 3, -6, api.OK},
		{"Mul", num.Mul, 1 << 25, 1 << 25, api.MaxNum, api.OK},
		{"Mul", num.Mul, 1 << 25, -1 << 25, -api.MaxNum, api.OK},
		{"Mul", num.Mul, 1 << 25, 1<<25 + 1, 0, api.ErrOverflow},
		{"Mul", num.Mul, 1<<25 + 1, -1 << 25, 0, api.ErrOverflow},
		{"Mul", num.Mul, 1 << 32, 1 << 32, 0, api.ErrOverflow},
		{"Mul", num.Mul, 0, api.MaxNum + 1, 0, api.ErrRange},
	} {
		if n, e := x.call(x.a, x.b); n != x.n || e != x.e {
			t.Errorf("%s(%d, %d) = %d, %d; want %d, %d", x.name, x.a, x.b, n, e, x.n, x.e)
		}
	}
}

func TestRangeOfTwoArguments(t *testing.T) {
	for name, call := range map[string]binary{"Add": num.Add, "Sub": num.Sub, "Mul": num.Mul, "Gcd": num.Gcd} {
		for _, bad := range outOfRange {
			for _, other := range slices.Concat(edges, outOfRange) {
				for _, args := range [][2]int{{bad, other}, {other, bad}} {
					if n, e := call(args[0], args[1]); n != 0 || e != api.ErrRange {
						t.Errorf("%s%v = %d, %d; want ErrRange", name, args, n, e)
					}
				}
			}
		}
	}
}

func repeated(n int, times int) []int {
	return slices.Repeat([]int{n}, times)
}

func TestSum(t *testing.T) {
	const m = api.MaxNum
	for i, x := range []struct {
		l []int
		n int
		e api.Errno
	}{
		{nil, 0, api.OK},
		{[]int{}, 0, api.OK},
		{[]int{0}, 0, api.OK},
		{[]int{-7}, -7, api.OK},
		{[]int{1, -2, 4}, 3, api.OK},
		{[]int{m}, m, api.OK},
		{[]int{-m}, -m, api.OK},
		{[]int{m, m, -m}, m, api.OK},
		{[]int{-m, -m, m}, -m, api.OK},
		{[]int{m - 1, 1}, m, api.OK},
		{[]int{1 - m, -1}, -m, api.OK},
		{[]int{m, 1}, 0, api.ErrOverflow},
		{[]int{-m, -1}, 0, api.ErrOverflow},
		{[]int{m, m}, 0, api.ErrOverflow},
		{[]int{-m, -m}, 0, api.ErrOverflow},
		{[]int{m, 1, -1}, m, api.OK},
		{[]int{-m, -1, 1}, -m, api.OK},
		{[]int{m + 1}, 0, api.ErrRange},
		{[]int{m, m, m + 1}, 0, api.ErrRange},
		{[]int{-m - 1, m}, 0, api.ErrRange},
		{[]int{m, m, math.MinInt, 3}, 0, api.ErrRange},
	} {
		if n, e := num.Sum(x.l); n != x.n || e != x.e {
			t.Errorf("%d: Sum = %d, %d; want %d, %d", i, n, e, x.n, x.e)
		}
	}
}

// Sums of so many numbers do not fit into 64 bits; 1 << 14 times MaxNum is even 0 there.
func TestSumOfMany(t *testing.T) {
	const m = api.MaxNum
	for _, times := range []int{8191, 8192, 1 << 14, 3 << 13, 1<<14 + 1} {
		high, low := repeated(m, times), repeated(-m, times)
		for _, l := range [][]int{high, low} {
			if n, e := num.Sum(l); n != 0 || e != api.ErrOverflow {
				t.Errorf("Sum of %d times %d = %d, %d; want ErrOverflow", times, l[0], n, e)
			}
		}
		if n, e := num.Sum(slices.Concat(high, low, []int{5})); n != 5 || e != api.OK {
			t.Errorf("Sum of %d pairs and 5 = %d, %d", times, n, e)
		}
		if n, e := num.Sum(slices.Concat(low, high[1:])); n != -m || e != api.OK {
			t.Errorf("Sum of %d pairs and -MaxNum = %d, %d", times-1, n, e)
		}
		if n, e := num.Sum(slices.Concat(high, []int{m + 1})); n != 0 || e != api.ErrRange {
			t.Errorf("Sum of %d and MaxNum + 1 = %d, %d; want ErrRange", times, n, e)
		}
	}
}

func TestSumOfEdges(t *testing.T) {
	for _, a := range edges {
		for _, b := range edges {
			for _, c := range edges {
				exact := new(big.Int).Add(whole(a), whole(b))
				l := []int{a, b, c}
				got, e := num.Sum(l)
				expect(t, "Sum", l, got, e, exact.Add(exact, whole(c)))
				if l[0] != a || l[1] != b || l[2] != c {
					t.Fatal("Sum changed its argument")
				}
			}
		}
	}
}

func TestGcd(t *testing.T) {
	const m = api.MaxNum
	for _, x := range [][3]int{
		{12, -18, 6}, {-12, -18, 6}, {0, -5, 5}, {-5, 0, 5}, {0, 0, 0}, {7, 13, 1}, {1, m, 1}, {6, 6, 6}, {4, 12, 4}, {12, 4, 4},
		{m, 1 << 20, 1 << 20}, {m, m, m}, {-m, -m, m}, {0, -m, m}, {-m, 0, m}, {m - 1, m, 1}, {m - 1, 1 - m, m - 1},
	} {
		if n, e := num.Gcd(x[0], x[1]); n != x[2] || e != api.OK {
			t.Errorf("Gcd(%d, %d) = %d, %d; want %d", x[0], x[1], n, e, x[2])
		}
	}
	for _, a := range edges {
		for _, b := range edges {
			got, e := num.Gcd(a, b)
			expect(t, "Gcd", []int{a, b}, got, e, new(big.Int).GCD(nil, nil, whole(a), whole(b)))
		}
	}
}

func TestCommonDivisorsDivideTheGcd(t *testing.T) {
	for a := -60; a <= 60; a++ {
		for b := -60; b <= 60; b++ {
			gcd, e := num.Gcd(a, b)
			if gcd < 0 || e != api.OK {
				t.Fatalf("Gcd(%d, %d) = %d, %d", a, b, gcd, e)
			}
			if gcd > 0 && (a%gcd != 0 || b%gcd != 0) {
				t.Fatalf("Gcd(%d, %d) = %d is not a common divisor", a, b, gcd)
			}
			for d := 1; d <= 60; d++ {
				if a%d == 0 && b%d == 0 && gcd%d != 0 {
					t.Fatalf("%d divides %d and %d, but not Gcd %d", d, a, b, gcd)
				}
			}
		}
	}
}
