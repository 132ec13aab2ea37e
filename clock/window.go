package clock

import (
	"cmp"
	"slices"

	"recycling/api"
)

// Merge returns the union of windows as sorted, non-empty windows that neither overlap nor touch. It returns ErrRange if a window is not valid.
func Merge(l []api.Window) ([]api.Window, api.Errno) {
	var filled []api.Window
	for _, w := range l {
		if !valid(w, api.MaxTime+1) {
			return nil, api.ErrRange
		}
		if w.From < w.To {
			filled = append(filled, w)
		}
	}
	slices.SortFunc(filled, func(a, b api.Window) int { return cmp.Compare(a.From, b.From) })
	return joinSorted(filled), api.OK
}

// joinSorted joins windows that overlap or touch; they are not empty, and sorted by their beginnings.
func joinSorted(l []api.Window) []api.Window {
	var joined []api.Window
	for _, w := range l {
		last := len(joined) - 1
		if last >= 0 && w.From <= joined[last].To {
			joined[last].To = max(joined[last].To, w.To)
		} else {
			joined = append(joined, w)
		}
	}
	return joined
}

// Inside reports whether one of the windows contains t.
func Inside(l []api.Window, t int) bool {
	for _, w := range l {
		if contains(w, t) {
			return true
		}
	}
	return false
}

// Common returns the intersection of two unions, in the form of Merge.
func Common(a []api.Window, b []api.Window) ([]api.Window, api.Errno) {
	mergedA, e := Merge(a)
	if e != api.OK {
		return nil, e
	}
	mergedB, e := Merge(b)
	if e != api.OK {
		return nil, e
	}
	return meetSorted(mergedA, mergedB), api.OK
}

// meetSorted returns the intersection of two lists in the form of Merge. It is in that form itself, as there is a gap in a or in b between any two of its windows.
func meetSorted(a, b []api.Window) []api.Window {
	var met []api.Window
	for len(a) > 0 && len(b) > 0 {
		w := api.Window{From: max(a[0].From, b[0].From), To: min(a[0].To, b[0].To)}
		if w.From < w.To {
			met = append(met, w)
		}
		// The window that ends first has no moment in common with the later ones of the other list.
		if a[0].To < b[0].To {
			a = a[1:]
		} else {
			b = b[1:]
		}
	}
	return met
}

func valid(w api.Window, end int) bool {
	return 0 <= w.From && w.From <= w.To && w.To <= end
}

func contains(w api.Window, t int) bool {
	return w.From <= t && t < w.To
}
