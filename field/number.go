package field

import (
	"strings"

	"recycling/api"
)

// Number reads a decimal number without leading zeros from -MaxMoney to MaxMoney.
func Number(s string) (int, api.Errno) {
	digits, negative := strings.CutPrefix(s, "-")
	if !isDecimal(digits) || negative && digits == "0" {
		return 0, api.ErrForm
	}
	n := 0
	for i := range len(digits) {
		n = 10*n + int(digits[i]-'0')
		// The rest of the digits might not fit into an int.
		if n > api.MaxMoney {
			return 0, api.ErrRange
		}
	}
	if negative {
		n = -n
	}
	return n, api.OK
}

// isDecimal reports whether s consists of digits, with no 0 before another one.
func isDecimal(s string) bool {
	for i := range len(s) {
		if s[i] < '0' || s[i] > '9' {
			return false
		}
	}
	return s != "" && (s[0] != '0' || s == "0")
}
