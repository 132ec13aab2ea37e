package ident_test

import (
	"iter"
	"math"
	"slices"
	"strconv"
	"strings"
	"testing"

	"recycling/api"
	"recycling/ident"
)

func newTable(t *testing.T, l ...string) *ident.Table {
	t.Helper()
	x, e := ident.New(l...)
	if x == nil || e != api.OK {
		t.Fatalf("New(%q) = %v, %d", l, x, e)
	}
	return x
}

// checkYields fails unless all yields the identifiers want with their numbers.
func checkYields(t *testing.T, all iter.Seq2[int, string], want []string) {
	t.Helper()
	if all == nil {
		t.Fatal("the sequence is nil")
	}
	n := 0
	for number, name := range all {
		if n >= len(want) || number != n || name != want[n] {
			t.Fatalf("element %d of %q is %d, %q", n, want, number, name)
		}
		n++
	}
	if n != len(want) {
		t.Errorf("%d elements of %q", n, want)
	}
}

// checkTable fails unless x contains exactly the identifiers want, in their order.
func checkTable(t *testing.T, x *ident.Table, want []string) {
	t.Helper()
	if x.Len() != len(want) {
		t.Errorf("Len of %q is %d", want, x.Len())
	}
	for i, s := range want {
		if name, ok := x.Name(i); name != s || !ok {
			t.Errorf("Name(%d) in %q = %q, %v", i, want, name, ok)
		}
		if n, ok := x.Find(s); n != i || !ok {
			t.Errorf("Find(%q) in %q = %d, %v", s, want, n, ok)
		}
	}
	for _, i := range []int{math.MinInt, math.MinInt + 1, -1 << 32, -len(want), -2, -1, len(want), len(want) + 1, 1 << 32, math.MaxInt - 1, math.MaxInt} {
		if name, ok := x.Name(i); (i < 0 || i >= len(want)) && (name != "" || ok) {
			t.Errorf("Name(%d) in %q = %q, %v", i, want, name, ok)
		}
	}
	for _, s := range append([]string{"a", "A", "b", "B", "ab", "missing"}, invalid...) {
		if n, ok := x.Find(s); !slices.Contains(want, s) && (n != 0 || ok) {
			t.Errorf("Find(%.40q) in %q = %d, %v", s, want, n, ok)
		}
	}
	checkYields(t, x.All(), want)
}

func TestNew(t *testing.T) {
	for _, l := range [][]string{
		nil, {}, {"a"}, {"b", "a", "B"}, {"a", "A"}, {"a", "aa", "aaa", "a.", "a-", "a_", "a1"}, {"Z", "z", "Y", "y"}, {longest, longest[:31], longest[:1], strings.ToUpper(longest)}, {"x10", "x9", "x1", "x01"},
	} {
		checkTable(t, newTable(t, l...), l)
	}
}

func TestNewRefuses(t *testing.T) {
	for _, c := range []struct {
		l []string
		e api.Errno
	}{
		{[]string{"a", "1", "a"}, api.ErrName}, {[]string{"a", "a", "1"}, api.ErrTwice}, {[]string{""}, api.ErrName}, {[]string{"", ""}, api.ErrName}, {[]string{"1", "1"}, api.ErrName}, {[]string{"1", "a", "a"}, api.ErrName},
		{[]string{"a", "a"}, api.ErrTwice}, {[]string{"a", "b", "c", "a"}, api.ErrTwice}, {[]string{"a", "b", "c", "c"}, api.ErrTwice}, {[]string{"a", "b", "b", "a", "1"}, api.ErrTwice}, {[]string{"a", "A", "a"}, api.ErrTwice}, {[]string{longest, longest}, api.ErrTwice},
		{[]string{"a", "b", "c", "-"}, api.ErrName}, {[]string{"a", longest + "a", "a"}, api.ErrName}, {[]string{"b", "a", "a "}, api.ErrName},
	} {
		if x, e := ident.New(c.l...); x != nil || e != c.e {
			t.Errorf("New(%q) = %v, %d; want %d", c.l, x, e, c.e)
		}
	}
	for _, s := range invalid {
		for _, l := range [][]string{{s}, {"a", s}, {s, "a", "a"}, {"a", s, "a"}} {
			if x, e := ident.New(l...); x != nil || e != api.ErrName {
				t.Errorf("New(%.80q) = %v, %d; want ErrName", l, x, e)
			}
		}
		if x, e := ident.New("a", "a", s); x != nil || e != api.ErrTwice {
			t.Errorf("New(a, a, %.40q) = %v, %d; want ErrTwice", s, x, e)
		}
	}
}

// A table shares no memory with the list that it was made of, nor with another table.
func TestTablesAreIndependent(t *testing.T) {
	l := []string{"b", "a", "B", "z"}[:3]
	x, y := newTable(t, l...), newTable(t, l...)
	if n, e := x.Add("x"); n != 3 || e != api.OK {
		t.Errorf("Add(x) = %d, %d", n, e)
	}
	if !slices.Equal(l[:4], []string{"b", "a", "B", "z"}) {
		t.Errorf("New or Add changed the list to %q", l[:4])
	}
	for _, s := range []string{"y", "x"} {
		if _, e := y.Add(s); e != api.OK {
			t.Errorf("Add(%s) gives %d", s, e)
		}
	}
	clear(l)
	checkTable(t, x, []string{"b", "a", "B", "x"})
	checkTable(t, y, []string{"b", "a", "B", "y", "x"})
	checkTable(t, newTable(t), nil)
}

func TestAdd(t *testing.T) {
	x, want := newTable(t, "b", "a", "B"), []string{"b", "a", "B"}
	for _, c := range []struct {
		s string
		n int
		e api.Errno
	}{
		{"c", 3, api.OK}, {"c", 0, api.ErrTwice}, {"1", 0, api.ErrName}, {"C", 4, api.OK}, {"b", 0, api.ErrTwice}, {"B", 0, api.ErrTwice}, {"", 0, api.ErrName}, {"c ", 0, api.ErrName}, {"c.", 5, api.OK}, {longest + "a", 0, api.ErrName}, {longest, 6, api.OK}, {longest, 0, api.ErrTwice}, {longest[:31], 7, api.OK}, {"A", 8, api.OK}, {"a", 0, api.ErrTwice},
	} {
		if n, e := x.Add(c.s); n != c.n || e != c.e {
			t.Errorf("Add(%q) = %d, %d; want %d, %d", c.s, n, e, c.n, c.e)
		}
		if c.e == api.OK {
			want = append(want, c.s)
		}
		checkTable(t, x, want)
	}
	for _, s := range invalid {
		// A second attempt shows that the first one left nothing behind.
		for range 2 {
			if n, e := x.Add(s); n != 0 || e != api.ErrName {
				t.Errorf("Add(%.40q) = %d, %d; want ErrName", s, n, e)
			}
		}
	}
	checkTable(t, x, want)
}

// All lists of up to five strings are added to an empty table, and compared with a list that is searched from the start.
func TestAllShortLists(t *testing.T) {
	alphabet := []string{"a", "A", "b", "a.", "1", ""}
	var try func(l []string)
	try = func(l []string) {
		checkList(t, l)
		if len(l) < 5 {
			for _, s := range alphabet {
				try(append(slices.Clip(l), s))
			}
		}
	}
	try(nil)
}

func checkList(t *testing.T, l []string) {
	t.Helper()
	x := newTable(t)
	var want []string
	first := api.OK
	for _, s := range l {
		wantNumber, wantError := len(want), api.OK
		switch {
		case !wellFormed.MatchString(s):
			wantNumber, wantError = 0, api.ErrName
		case slices.Contains(want, s):
			wantNumber, wantError = 0, api.ErrTwice
		default:
			want = append(want, s)
		}
		if n, e := x.Add(s); n != wantNumber || e != wantError {
			t.Errorf("adding %q of %q gives %d, %d; want %d, %d", s, l, n, e, wantNumber, wantError)
		}
		if first == api.OK {
			first = wantError
		}
	}
	checkTable(t, x, want)
	switch y, e := ident.New(l...); {
	case e != first || (y == nil) != (e != api.OK):
		t.Errorf("New(%q) = %v, %d; want %d", l, y, e, first)
	case e == api.OK:
		checkTable(t, y, want)
	}
}

// There are more identifiers than any limit of package api allows for other things.
func TestManyIdentifiers(t *testing.T) {
	const many = api.MaxSeq + 2
	name := func(i int) string { return "n" + strconv.Itoa(i) }
	x := newTable(t)
	for i := range many {
		if n, e := x.Add(name(i)); n != i || e != api.OK {
			t.Fatalf("Add(%s) = %d, %d", name(i), n, e)
		}
	}
	if n, e := x.Add(name(many / 2)); n != 0 || e != api.ErrTwice {
		t.Errorf("Add(%s) again = %d, %d", name(many/2), n, e)
	}
	if x.Len() != many {
		t.Errorf("Len is %d", x.Len())
	}
	yielded := 0
	for i, s := range x.All() {
		back, named := x.Name(i)
		n, found := x.Find(s)
		if i != yielded || s != name(i) || back != s || n != i || !named || !found {
			t.Fatalf("element %d is %d, %q; Name gives %q, %v, and Find %d, %v", yielded, i, s, back, named, n, found)
		}
		yielded++
	}
	if yielded != many {
		t.Errorf("All yields %d elements", yielded)
	}
}

// A sequence contains what the table contained when All was called, whatever is added before or while it is ranged over.
func TestAllIsOfItsTime(t *testing.T) {
	x := newTable(t)
	var names []string
	var sequences []iter.Seq2[int, string]
	for i := range 70 {
		sequences = append(sequences, x.All())
		names = append(names, "n"+strconv.Itoa(i))
		if _, e := x.Add(names[i]); e != api.OK {
			t.Fatalf("Add(%s) gives %d", names[i], e)
		}
		if _, e := x.Add(names[i]); e != api.ErrTwice {
			t.Errorf("Add(%s) again gives %d", names[i], e)
		}
	}
	for range 2 {
		for i, all := range sequences {
			checkYields(t, all, names[:i])
		}
	}
	all := x.All()
	n := 0
	for i, s := range all {
		if added, e := x.Add("m" + s); i != n || s != names[n] || added != len(names)+n || e != api.OK {
			t.Fatalf("element %d is %d, %q; Add gives %d, %d", n, i, s, added, e)
		}
		n++
	}
	if n != len(names) || x.Len() != 2*n {
		t.Errorf("%d elements, after which Len is %d", n, x.Len())
	}
	checkYields(t, all, names)
}

func TestAllStops(t *testing.T) {
	names := []string{"b", "a", "B", "c", "A"}
	all := newTable(t, names...).All()
	for stop := 1; stop <= len(names); stop++ {
		calls := 0
		all(func(i int, s string) bool {
			if i != calls || s != names[i] {
				t.Errorf("element %d is %d, %q", calls, i, s)
			}
			calls++
			return calls < stop
		})
		if calls != stop {
			t.Errorf("%d elements are yielded to a body that stops after %d", calls, stop)
		}
	}
	checkYields(t, all, names)
	outer := 0
	for i, s := range all {
		checkYields(t, all, names)
		if i != outer || s != names[i] {
			t.Errorf("element %d is %d, %q", outer, i, s)
		}
		outer++
	}
	if outer != len(names) {
		t.Errorf("%d elements around a range over the same sequence", outer)
	}
}

func TestNilTable(t *testing.T) {
	var x *ident.Table
	for _, s := range append([]string{"a", "A-1", longest}, invalid...) {
		if n, e := x.Add(s); n != 0 || e != api.ErrNil {
			t.Errorf("Add(%.40q) = %d, %d; want ErrNil", s, n, e)
		}
		if n, ok := x.Find(s); n != 0 || ok {
			t.Errorf("Find(%.40q) = %d, %v", s, n, ok)
		}
	}
	for _, i := range []int{math.MinInt, -1, 0, 1, math.MaxInt} {
		if s, ok := x.Name(i); s != "" || ok {
			t.Errorf("Name(%d) = %q, %v", i, s, ok)
		}
	}
	if x.Len() != 0 {
		t.Errorf("Len is %d", x.Len())
	}
	for range 2 {
		checkYields(t, x.All(), nil)
	}
}
