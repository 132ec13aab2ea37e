package num

import (
	"recycling/api"
)

const maxPlaces = 6

// Format returns n / 10^places as a decimal number with exactly places digits after the point (0 to 6).
func Format(n int, places int) (string, api.Errno) {
	if !inRange(n) || !validPlaces(places) {
		return "", api.ErrRange
	}
	text := ""
	rest := abs(n)
	// There is at least one digit before the full stop.
	for written := 0; written <= places || rest > 0; written++ {
		if written == places && places > 0 {
			text = "." + text
		}
		text = string(rune('0'+rest%10)) + text
		rest /= 10
	}
	if n < 0 {
		text = "-" + text
	}
	return text, api.OK
}

// Parse reads what Format returns; anything else is ErrForm.
func Parse(s string, places int) (int, api.Errno) {
	if !validPlaces(places) {
		return 0, api.ErrRange
	}
	n, ok := readDigits(s)
	if !ok {
		return 0, api.ErrForm
	}
	// A number has only one form, so whatever else readDigits lets pass differs from it.
	if form, _ := Format(n, places); form != s {
		return 0, api.ErrForm
	}
	return n, api.OK
}

// readDigits returns the number in range that the digits of s form, negative after a minus sign. It passes over full stops wherever they are.
func readDigits(s string) (int, bool) {
	n, negative := 0, false
	for i, r := range s {
		switch {
		case r >= '0' && r <= '9':
			n = 10*n + int(r-'0')
		case r == '-' && i == 0:
			negative = true
		case r != '.':
			return 0, false
		}
		if n > api.MaxNum {
			return 0, false
		}
	}
	if negative {
		n = -n
	}
	return n, true
}

func validPlaces(places int) bool {
	return places >= 0 && places <= maxPlaces
}
