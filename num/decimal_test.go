package num_test

import (
	"strings"
	"testing"

	"recycling/api"
	"recycling/num"
)

var forms = []struct {
	n, places int
	s         string
}{
	{-5, 2, "-0.05"}, {1230, 2, "12.30"}, {7, 0, "7"}, {-7, 0, "-7"}, {0, 0, "0"}, {0, 1, "0.0"}, {0, 3, "0.000"}, {0, 6, "0.000000"},
	{1, 6, "0.000001"}, {-1, 6, "-0.000001"}, {-100, 2, "-1.00"}, {100, 0, "100"}, {-10, 1, "-1.0"}, {99, 2, "0.99"}, {999, 3, "0.999"},
	{1000, 3, "1.000"}, {12345, 4, "1.2345"}, {12345, 5, "0.12345"}, {1234567, 6, "1.234567"}, {10203, 1, "1020.3"},
	{api.MaxNum, 0, "1125899906842624"}, {-api.MaxNum, 0, "-1125899906842624"},
	{api.MaxNum, 6, "1125899906.842624"}, {-api.MaxNum, 6, "-1125899906.842624"}, {api.MaxNum - 1, 2, "11258999068426.23"},
}

func TestForms(t *testing.T) {
	for _, x := range forms {
		if s, e := num.Format(x.n, x.places); s != x.s || e != api.OK {
			t.Errorf("Format(%d, %d) = %q, %d; want %q", x.n, x.places, s, e, x.s)
		}
		if n, e := num.Parse(x.s, x.places); n != x.n || e != api.OK {
			t.Errorf("Parse(%q, %d) = %d, %d; want %d", x.s, x.places, n, e, x.n)
		}
	}
}

func TestFormatErrors(t *testing.T) {
	for _, n := range outOfRange {
		for places := -1; places <= 7; places++ {
			if s, e := num.Format(n, places); s != "" || e != api.ErrRange {
				t.Errorf("Format(%d, %d) = %q, %d; want ErrRange", n, places, s, e)
			}
		}
	}
	for _, places := range append([]int{-1, 7}, outOfRange...) {
		if s, e := num.Format(1, places); s != "" || e != api.ErrRange {
			t.Errorf("Format(1, %d) = %q, %d; want ErrRange", places, s, e)
		}
	}
}

func TestParseRefusesOtherPlaces(t *testing.T) {
	for _, x := range forms {
		for places := range 7 {
			if places == x.places {
				continue
			}
			if n, e := num.Parse(x.s, places); n != 0 || e != api.ErrForm {
				t.Errorf("Parse(%q, %d) = %d, %d; want ErrForm", x.s, places, n, e)
			}
		}
	}
	for _, places := range append([]int{-1, 7}, outOfRange...) {
		for _, s := range []string{"", "x", "0", "1.0000000"} {
			if n, e := num.Parse(s, places); n != 0 || e != api.ErrRange {
				t.Errorf("Parse(%q, %d) = %d, %d; want ErrRange", s, places, n, e)
			}
		}
	}
}

func TestParseRefusesOtherForms(t *testing.T) {
	for places, malformed := range map[int][]string{
		0: {
			"", "-", "+", ".", "-.", "00", "01", "-0", "-00", "-01", "+1", "+0", " 1", "1 ", "\t1", "1\n", "1.", ".1", "1.0", "1e3", "0x1", "1_000", "1,000",
			"--1", "1-", "1-1", "-1-", "x", "1x", "\x00", "1\x00", "١", "１", "1\xff", "\xff", "−1", "é",
			"1125899906842625", "-1125899906842625", "9223372036854775808", "18446744073709551616", "18446744073709551617", "-18446744073709551617",
		},
		2: {
			"", "-", ".", "..", "0", "12.3", "12.300", "12.", "1230", "012.30", "00.05", ".05", "-.05", "-0.00", "-00.05", "+1.00", "1,00", " 1.00", "1.00 ", "1 .00",
			"1..00", "1..0", "1.0.0", ".1.00", "1.00.", "--1.00", "-1.-0", "1.-00", "1.+0", "1.0x", "1.x0", "x.00", "0.0", "-0.5", "1.0\xff", "1.٠٠",
			"11258999068426.25", "-11258999068426.25", "99999999999999999999.00", "184467440737095516.17",
		},
		6: {"0.00000", "0.0000000", "-0.000000", ".000001", "1125899906.842625"},
	} {
		for _, s := range malformed {
			if n, e := num.Parse(s, places); n != 0 || e != api.ErrForm {
				t.Errorf("Parse(%q, %d) = %d, %d; want ErrForm", s, places, n, e)
			}
		}
	}
}

func TestParseRefusesLongStrings(t *testing.T) {
	for _, s := range []string{"0", "1", "9", ".", "-", "0.", "é"} {
		long := strings.Repeat(s, 100000)
		for places := range 7 {
			for _, text := range []string{long, "-" + long, long + ".00", "1" + long} {
				if n, e := num.Parse(text, places); n != 0 || e != api.ErrForm {
					t.Errorf("Parse of %d times %q, %d places = %d, %d; want ErrForm", 100000, s, places, n, e)
				}
			}
		}
	}
}

func TestParseOfFormat(t *testing.T) {
	numbers := append([]int{}, edges...)
	for n := -1100; n <= 1100; n++ {
		numbers = append(numbers, n, n*1000, n*999983)
	}
	for _, n := range numbers {
		for places := range 7 {
			s, e := num.Format(n, places)
			if e != api.OK {
				t.Fatalf("Format(%d, %d): %d", n, places, e)
			}
			if back, e := num.Parse(s, places); back != n || e != api.OK {
				t.Errorf("Parse(%q, %d) = %d, %d; want %d", s, places, back, e, n)
			}
		}
	}
}

// Every string of up to five of these signs is either refused or what Format returns.
func TestFormatOfParse(t *testing.T) {
	accepted := [7]int{}
	var visit func(s string)
	visit = func(s string) {
		for places := range 7 {
			n, e := num.Parse(s, places)
			if e != api.OK {
				if n != 0 || e != api.ErrForm {
					t.Errorf("Parse(%q, %d) = %d, %d", s, places, n, e)
				}
				continue
			}
			accepted[places]++
			if form, e := num.Format(n, places); form != s || e != api.OK {
				t.Errorf("Parse(%q, %d) = %d, whose form is %q", s, places, n, form)
			}
		}
		if len(s) < 5 {
			for _, sign := range []string{"0", "1", "9", "-", ".", "+", " "} {
				visit(s + sign)
			}
		}
	}
	visit("")
	// The first digit is 1 or 9, or 0 if it is the only one before the full stop; each further one is 0, 1 or 9. A minus sign takes the place of a digit, and zero has none.
	want := [7]int{
		(3 + 6 + 18 + 54 + 162) + (3 + 6 + 18 + 54 - 1),
		(3+6+18)*3 + (3+6)*3 - 1,
		(3+6)*9 + 3*9 - 1,
		3 * 27,
	}
	if accepted != want {
		t.Errorf("accepted %v; want %v", accepted, want)
	}
}
