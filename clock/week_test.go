package clock_test

import (
	"math"
	"testing"

	"recycling/api"
	"recycling/clock"
)

const week = 7 * api.Day

// weeks are valid, and open for parts of days, for none and for all of them.
var weeks = []api.Week{
	{},
	{win(28800, 43200)},
	{0: win(0, 1), 6: win(api.Day-1, api.Day)},
	{win(0, api.Day), win(0, api.Day), win(0, api.Day), win(0, api.Day), win(0, api.Day), win(0, api.Day), win(0, api.Day)},
	{win(100, 200), win(43200, 43200), win(0, api.Day), win(0, 0), win(api.Day, api.Day), win(1, api.Day-1), win(200, 100+200)},
	{2: win(api.Day-1, api.Day)},
	{5: win(0, 1)},
	{5: win(api.Day-1, api.Day)},
	{4: win(36000, 36001), 5: win(36000, 36000)},
	{6: win(0, api.Day)},
}

// badHours are windows that no week may have.
var badHours = []api.Window{
	win(0, api.Day+1), win(api.Day, api.Day+1), win(api.Day+1, api.Day+1), win(-1, 5), win(-1, -1), win(5, 4), win(api.Day, 0), win(1, 0),
	win(math.MinInt, math.MaxInt), win(math.MaxInt, math.MinInt), win(math.MinInt, math.MinInt), win(math.MaxInt, math.MaxInt), win(0, math.MaxInt), win(math.MinInt, 0),
}

func isOpen(w api.Week, t int) bool {
	hours := w[t/86400%7]
	return hours.From <= t%86400 && t%86400 < hours.To
}

func TestOpen(t *testing.T) {
	mondays := api.Week{win(28800, 43200)}
	for at, want := range map[int]bool{
		0: false, 28799: false, 28800: true, 43199: true, 43200: false, api.Day + 30000: false, 6*api.Day + 30000: false,
		week + 28799: false, week + 28800: true, week + 43199: true, week + 43200: false,
		5217*week + 28800: true, api.MaxTime: false,
	} {
		if open, e := clock.Open(mondays, at); open != want || e != api.OK {
			t.Errorf("Open on Mondays at %d = %v, %d; want %v", at, open, e, want)
		}
	}
	// The last day is a Saturday.
	for at, want := range map[int]bool{api.MaxTime: true, api.MaxTime - 1: true, api.MaxTime - api.Day: false, 5 * api.Day: true, 5*api.Day - 1: false, 6 * api.Day: false} {
		if open, e := clock.Open(api.Week{5: win(0, api.Day)}, at); open != want || e != api.OK {
			t.Errorf("Open on Saturdays at %d = %v, %d; want %v", at, open, e, want)
		}
	}
}

func TestNext(t *testing.T) {
	mondays := api.Week{win(28800, 43200)}
	saturdays := api.Week{5: win(36000, 36060)}
	const last = api.MaxDay * api.Day
	for _, x := range []struct {
		w       api.Week
		t, want int
		e       api.Errno
	}{
		{mondays, 0, 28800, api.OK}, {mondays, 28799, 28800, api.OK}, {mondays, 28800, 28800, api.OK}, {mondays, 30000, 30000, api.OK}, {mondays, 43199, 43199, api.OK},
		{mondays, 43200, 633600, api.OK}, {mondays, 604800, 633600, api.OK}, {mondays, 633599, 633600, api.OK}, {mondays, 633600 + 14400, 633600 + week, api.OK},
		{mondays, api.MaxTime, 0, api.ErrNone}, {mondays, 5217*week + 43199, 5217*week + 43199, api.OK}, {mondays, 5217*week + 43200, 0, api.ErrNone},
		{saturdays, 0, 5*api.Day + 36000, api.OK}, {saturdays, 5*api.Day + 36060, 12*api.Day + 36000, api.OK},
		{saturdays, last - api.Day, last + 36000, api.OK}, {saturdays, last + 36059, last + 36059, api.OK}, {saturdays, last + 36060, 0, api.ErrNone}, {saturdays, api.MaxTime, 0, api.ErrNone},
		{api.Week{5: win(0, api.Day)}, api.MaxTime, api.MaxTime, api.OK},
		{api.Week{5: win(api.Day-1, api.Day)}, last, api.MaxTime, api.OK},
		{api.Week{6: win(0, api.Day)}, last, 0, api.ErrNone},
		{api.Week{}, 0, 0, api.ErrNone}, {api.Week{}, api.MaxTime, 0, api.ErrNone},
		{api.Week{win(5, 5), win(0, 0), win(api.Day, api.Day)}, 0, 0, api.ErrNone},
	} {
		if at, e := clock.Next(x.w, x.t); at != x.want || e != x.e {
			t.Errorf("Next(%v, %d) = %d, %d; want %d, %d", x.w, x.t, at, e, x.want, x.e)
		}
	}
}

func TestInvalidWeeks(t *testing.T) {
	refuses := func(w api.Week, at int) {
		if open, e := clock.Open(w, at); open || e != api.ErrRange {
			t.Errorf("Open(%v, %d) = %v, %d; want ErrRange", w, at, open, e)
		}
		if next, e := clock.Next(w, at); next != 0 || e != api.ErrRange {
			t.Errorf("Next(%v, %d) = %d, %d; want ErrRange", w, at, next, e)
		}
	}
	for _, w := range weeks {
		for _, at := range outside {
			refuses(w, at)
		}
		for weekday := range w {
			for _, hours := range badHours {
				bad := w
				bad[weekday] = hours
				for _, at := range []int{0, 30000, weekday * api.Day, api.MaxTime, api.MaxTime + 1, -1} {
					refuses(bad, at)
				}
			}
		}
	}
}

// From the last to the first moment of some weeks, Next is the moment itself if it is open, and otherwise what it is a second later.
func TestNextIsTheFirstOpenMoment(t *testing.T) {
	for _, w := range weeks {
		next, e := 0, api.ErrNone
		for at := api.MaxTime; at > api.MaxTime-2*week; at-- {
			if isOpen(w, at) {
				next, e = at, api.OK
			}
			checkMoment(t, w, at, next, e)
		}
		next, e = 0, api.ErrNone
		// A week that opens at all does so within its seven days, so what follows the moments before 2 * week is known from the next seven.
		for at := 3*week - 1; at >= 0; at-- {
			if isOpen(w, at) {
				next, e = at, api.OK
			}
			if at < 2*week {
				checkMoment(t, w, at, next, e)
			}
		}
	}
}

// checkMoment compares Open and Next at the moment at with what they have to return.
func checkMoment(t *testing.T, w api.Week, at, want int, wantError api.Errno) {
	if open, e := clock.Open(w, at); open != isOpen(w, at) || e != api.OK {
		t.Fatalf("Open(%v, %d) = %v, %d", w, at, open, e)
	}
	if next, e := clock.Next(w, at); next != want || e != wantError {
		t.Fatalf("Next(%v, %d) = %d, %d; want %d, %d", w, at, next, e, want, wantError)
	}
}
