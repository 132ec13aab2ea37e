package clock_test

import (
	"math"
	"regexp"
	"strconv"
	"strings"
	"testing"

	"recycling/api"
	"recycling/clock"
)

// outside are numbers that are neither moments nor days.
var outside = []int{math.MinInt, math.MinInt + 1, -api.MaxTime, -api.Day - 1, -api.Day, -7, -1, api.MaxTime + 1, api.MaxTime + 2, 2 * api.MaxTime, 1 << 62, math.MaxInt - 1, math.MaxInt}

func TestDate(t *testing.T) {
	for _, x := range []struct{ t, day, second int }{
		{0, 0, 0}, {1, 0, 1}, {90061, 1, 3661}, {86399, 0, 86399}, {86400, 1, 0}, {86401, 1, 1}, {604799, 6, 86399}, {604800, 7, 0},
		{3155673600, 36524, 0}, {3155673599, 36523, 86399}, {api.MaxTime - 1, 36524, 86398}, {api.MaxTime, 36524, 86399},
	} {
		if day, second, e := clock.Date(x.t); day != x.day || second != x.second || e != api.OK {
			t.Errorf("Date(%d) = %d, %d, %d; want %d, %d", x.t, day, second, e, x.day, x.second)
		}
	}
	for _, n := range outside {
		if day, second, e := clock.Date(n); day != 0 || second != 0 || e != api.ErrRange {
			t.Errorf("Date(%d) = %d, %d, %d; want ErrRange", n, day, second, e)
		}
	}
}

func TestWeekday(t *testing.T) {
	for day := range api.MaxDay + 1 {
		if weekday, e := clock.Weekday(day); weekday != day%7 || e != api.OK {
			t.Errorf("Weekday(%d) = %d, %d", day, weekday, e)
		}
	}
	for day, want := range map[int]int{0: 0, 1: 1, 6: 6, 7: 0, 8: 1, 36524: 5} {
		if weekday, e := clock.Weekday(day); weekday != want || e != api.OK {
			t.Errorf("Weekday(%d) = %d, %d; want %d", day, weekday, e, want)
		}
	}
	for _, n := range append([]int{api.MaxDay + 1, api.MaxDay + 2, api.Day, api.MaxTime}, outside...) {
		if weekday, e := clock.Weekday(n); weekday != 0 || e != api.ErrRange {
			t.Errorf("Weekday(%d) = %d, %d; want ErrRange", n, weekday, e)
		}
	}
}

var forms = []struct {
	t int
	s string
}{
	{0, "0 00:00:00"}, {1, "0 00:00:01"}, {9, "0 00:00:09"}, {10, "0 00:00:10"}, {59, "0 00:00:59"}, {60, "0 00:01:00"}, {600, "0 00:10:00"}, {3599, "0 00:59:59"},
	{3600, "0 01:00:00"}, {35999, "0 09:59:59"}, {36000, "0 10:00:00"}, {45296, "0 12:34:56"}, {86399, "0 23:59:59"}, {86400, "1 00:00:00"}, {90061, "1 01:01:01"},
	{863999, "9 23:59:59"}, {864000, "10 00:00:00"}, {8640000, "100 00:00:00"}, {1066780800 + 45296, "12347 12:34:56"}, {3155673600, "36524 00:00:00"},
	{3155673599, "36523 23:59:59"}, {api.MaxTime - 1, "36524 23:59:58"}, {api.MaxTime, "36524 23:59:59"},
}

func TestForms(t *testing.T) {
	for _, x := range forms {
		if s, e := clock.Format(x.t); s != x.s || e != api.OK {
			t.Errorf("Format(%d) = %q, %d; want %q", x.t, s, e, x.s)
		}
		if n, e := clock.Parse(x.s); n != x.t || e != api.OK {
			t.Errorf("Parse(%q) = %d, %d; want %d", x.s, n, e, x.t)
		}
	}
	for _, n := range outside {
		if s, e := clock.Format(n); s != "" || e != api.ErrRange {
			t.Errorf("Format(%d) = %q, %d; want ErrRange", n, s, e)
		}
	}
}

func TestParseRefuses(t *testing.T) {
	for _, s := range []string{
		"", " ", "0", "1", "12", "0 ", "0 0", "0 00", "0 00:", "0 00:00", "0 00:00:", "0 00:00:0", "00:00:00", " 00:00:00", ":::", " ::", "0 ::", "a b:c:d",
		"1 1:01:01", "1 01:1:01", "1 01:01:1", "1 001:01:01", "1 01:001:01", "1 01:01:001", "01 01:01:01", "00 00:00:00", "0036524 00:00:00", "-0 00:00:00", "-1 00:00:00", "+1 00:00:00", "1 +1:00:00", "1 -1:00:00",
		"1 24:00:00", "1 23:60:00", "1 23:59:60", "1 99:99:99", "0 00:60:00", "0 00:00:60", "0 00:00:3600", "0 00:1440:00", "0 00:00:86399",
		"36525 00:00:00", "36524 24:00:00", "36524 23:60:00", "36524 23:59:60", "99999 00:00:00", "365240 00:00:00", "100000000000000000000 00:00:00",
		"18446744073709551616 00:00:00", "18446744073709551617 01:01:01", "9223372036854775808 00:00:00", "0 18446744073709551616:00:00", "0 00:00:18446744073709551616", "213503982334601 07:00:16",
		" 1 01:01:01", "1 01:01:01 ", "1  01:01:01", "1 01:01:01\n", "1 01:01:01\x00", "\x001 01:01:01", "1\t01:01:01", "1:01:01:01", "1 01 01 01", "1 01:01 01", "1 01.01.01", "1-01:01:01", "1 01:01:01:", "1 01:01:01:00", "1 01:01:01 2", "1 01:01::01", "1 0x:01:01", "1 01:01:0a",
		"1\u00a001:01:01", "\uff11 01:01:01", "1 0\u0661:01:01", "\u0131 01:01:01", "1 01:01:0\xff", "\xff", "1 01:01:01\xff", "1 01\uff1a01:01",
		strings.Repeat("9", 1<<20), strings.Repeat("0", 1<<20), strings.Repeat("0", 1<<20) + " 00:00:00", strings.Repeat(":", 1<<20), "0 00:00:" + strings.Repeat("0", 1<<20),
	} {
		if n, e := clock.Parse(s); n != 0 || e != api.ErrForm {
			t.Errorf("Parse(%.40q) = %d, %d; want ErrForm", s, n, e)
		}
	}
}

var wellFormed = regexp.MustCompile(`^(0|[1-9][0-9]{0,4}) ([01][0-9]|2[0-3]):([0-5][0-9]):([0-5][0-9])$`)

// parsed returns what Parse has to return for s.
func parsed(s string) (int, api.Errno) {
	parts := wellFormed.FindStringSubmatch(s)
	if parts == nil {
		return 0, api.ErrForm
	}
	t := 0
	for i, unit := range []int{86400, 3600, 60, 1} {
		n, err := strconv.Atoi(parts[i+1])
		if err != nil || i == 0 && n > 36524 {
			return 0, api.ErrForm
		}
		t += n * unit
	}
	return t, api.OK
}

// Strings that differ from a form in one place are read only if they are forms as well.
func TestParseOfChangedForms(t *testing.T) {
	for _, x := range forms {
		for i := range len(x.s) + 1 {
			changed := []string{x.s[:i], x.s[i:]}
			if i < len(x.s) {
				changed = append(changed, x.s[:i]+x.s[i+1:])
			}
			for c := range 256 {
				inserted := x.s[:i] + string([]byte{byte(c)})
				changed = append(changed, inserted+x.s[i:])
				if i < len(x.s) {
					changed = append(changed, inserted+x.s[i+1:])
				}
			}
			for _, s := range changed {
				want, wantError := parsed(s)
				if n, e := clock.Parse(s); n != want || e != wantError {
					t.Errorf("Parse(%q) = %d, %d; want %d, %d", s, n, e, want, wantError)
				}
			}
		}
	}
}

// Date divides a moment into numbers from which it can be put together, and Parse undoes Format.
func TestInverses(t *testing.T) {
	check := func(n int) {
		day, second, e := clock.Date(n)
		if day*api.Day+second != n || second < 0 || second >= api.Day || e != api.OK {
			t.Errorf("Date(%d) = %d, %d, %d", n, day, second, e)
		}
		s, e := clock.Format(n)
		if want, wantError := parsed(s); want != n || wantError != api.OK || e != api.OK {
			t.Errorf("Format(%d) = %q, %d", n, s, e)
		}
		if back, e := clock.Parse(s); back != n || e != api.OK {
			t.Errorf("Parse(Format(%d)) = %d, %d", n, back, e)
		}
	}
	for n := 0; n <= api.MaxTime; n += 19997 {
		check(n)
	}
	for n := range api.Day {
		check(n)
		check(api.MaxTime - n)
	}
}
