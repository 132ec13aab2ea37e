package clock

import (
	"recycling/api"
)

// Open reports whether w is open at the moment t. It returns ErrRange if w is not valid, as Next does.
func Open(w api.Week, t int) (bool, api.Errno) {
	day, second, e := dateIn(w, t)
	if e != api.OK {
		return false, e
	}
	return contains(hoursOf(w, day), second), api.OK
}

// Next returns the first moment from t on at which w is open, or ErrNone.
func Next(w api.Week, t int) (int, api.Errno) {
	today, second, e := dateIn(w, t)
	if e != api.OK {
		return 0, e
	}
	// The day that is a week ahead counts too, as today's window may have opened before t, and is not visited from its beginning.
	for ahead := range 8 {
		day := today + ahead
		if day > api.MaxDay {
			break
		}
		hours := hoursOf(w, day)
		if first := max(hours.From, second); contains(hours, first) {
			return day*api.Day + first, api.OK
		}
		second = 0
	}
	return 0, api.ErrNone
}

// dateIn returns the day and the second of the day of the moment t; ErrRange if w is not valid or t is not a moment.
func dateIn(w api.Week, t int) (int, int, api.Errno) {
	for _, hours := range w {
		if !valid(hours, api.Day) {
			return 0, 0, api.ErrRange
		}
	}
	return Date(t)
}

func hoursOf(w api.Week, day int) api.Window {
	return w[day%len(w)]
}
