package field_test

import (
	"math/big"
	"regexp"
	"strconv"
	"strings"
	"testing"

	"recycling/api"
	"recycling/field"
)

var decimalForm = regexp.MustCompile(`\A(?:0|-?[1-9][0-9]*)\z`)

// expectedNumber is what Number returns, by its promise.
func expectedNumber(s string) (int, api.Errno) {
	if !decimalForm.MatchString(s) {
		return 0, api.ErrForm
	}
	n, _ := new(big.Int).SetString(s, 10)
	if n.CmpAbs(big.NewInt(api.MaxMoney)) > 0 {
		return 0, api.ErrRange
	}
	return int(n.Int64()), api.OK
}

func checkNumber(t *testing.T, s string, want int, wantError api.Errno) {
	t.Helper()
	if n, e := field.Number(s); n != want || e != wantError {
		t.Errorf("Number(%.80q) = %d, %d; want %d, %d", s, n, e, want, wantError)
	}
}

func TestNumber(t *testing.T) {
	for s, want := range map[string]int{
		"0": 0, "1": 1, "-1": -1, "9": 9, "-9": -9, "10": 10, "-10": -10, "-12": -12, "100": 100, "1002": 1002, "-907": -907, "4294967296": 1 << 32, "-4294967297": -1<<32 - 1, "2147483648": 1 << 31,
		"999999999999": api.MaxMoney - 1, "1000000000000": api.MaxMoney, "-1000000000000": -api.MaxMoney, "-999999999999": 1 - api.MaxMoney,
	} {
		checkNumber(t, s, want, api.OK)
	}
}

func TestNumberRefusesForms(t *testing.T) {
	for _, s := range []string{
		"", "-", "--", "--1", "-0", "-00", "00", "000", "01", "-01", "007", "-007", "+5", "+0", "+", "-+1", "+-1", "1-", "1-1", "5+", " ", " 1", "1 ", "- 1", "1 2", "1\n", "\n1", "1\x00", "\x001", "0x", "0x1f", "1f", "0b1", "0o7", "1_000", "1,000", "1.0", ".5", "1.", "1e3", "1E3", "Inf", "NaN", "x", "a1", "\"1\"", "#1",
		"/", ":", "1/", "1:", "\u0661", "\uff11", "1\u0662", "\u22121", "\u20131", "²", "\x80", "\xff1", "1\xff",
		"01000000000001", "-01000000000001", "0000000000000000000000000000000000000000", "00000000000000000000000000000000000000001", "9999999999999999999999999x", "x9999999999999999999999999", "1000000000001 ", "99999999999999999999.9", "-9999999999999999999-", strings.Repeat("9", 1<<20) + "x", "0" + strings.Repeat("9", 1<<20), strings.Repeat("0", 1<<20), "-" + strings.Repeat("0", 1<<20),
	} {
		checkNumber(t, s, 0, api.ErrForm)
	}
}

// A number outside the range has the right form, however long it is.
func TestNumberRefusesRanges(t *testing.T) {
	for _, s := range []string{
		"1000000000001", "1000000000002", "1000000000009", "1000000000010", "1999999999999", "9999999999999", "10000000000000", "1125899906842624", "9223372036854775807", "9223372036854775808", "18446744073709551615", "18446744073709551616", "18446744073709551617", "18446744073709551621", "36893488147419103233", "99999999999999999999999999", "340282366920938463463374607431768211457", "1" + strings.Repeat("0", 100), "1" + strings.Repeat("0", 1<<20), strings.Repeat("9", 1<<20), "18446744073709551616" + strings.Repeat("0", 60),
	} {
		checkNumber(t, s, 0, api.ErrRange)
		checkNumber(t, "-"+s, 0, api.ErrRange)
	}
}

func TestNumberOfAllShortStrings(t *testing.T) {
	for _, s := range allStrings("0189-+ .", 6) {
		want, wantError := expectedNumber(s)
		checkNumber(t, s, want, wantError)
	}
}

// Every byte is tried at every place of numbers.
func TestNumberOfAllBytes(t *testing.T) {
	for _, whole := range []string{"5", "-5", "12", "-12", "907", "1000000000000", "-1000000000000", "1000000000001", "99999999999999999999"} {
		for place := range whole {
			for c := range 256 {
				changed := []byte(whole)
				changed[place] = byte(c)
				want, wantError := expectedNumber(string(changed))
				checkNumber(t, string(changed), want, wantError)
			}
		}
	}
}

func TestNumberOfPowers(t *testing.T) {
	for power := uint(0); power < 130; power++ {
		for d := int64(-20); d <= 20; d++ {
			n := new(big.Int).Lsh(big.NewInt(1), power)
			s := n.Add(n, big.NewInt(d)).String()
			want, wantError := expectedNumber(s)
			checkNumber(t, s, want, wantError)
		}
	}
	for step := 1; step <= api.MaxMoney; step *= 10 {
		for d := -20; d <= 20; d++ {
			for _, n := range []int{step + d, -step + d, 7*step + d, 3 - 9*step + d} {
				want, wantError := expectedNumber(strconv.Itoa(n))
				checkNumber(t, strconv.Itoa(n), want, wantError)
			}
		}
	}
}
