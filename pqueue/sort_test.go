package pqueue_test

import (
	"math/rand"
	"slices"
	"testing"

	"recycling/pqueue"
)

// inserted is the list that Sort returns, by its promise: each element is put before the first one that is greater.
func inserted[T any](l []T, less func(a, b T) bool) []T {
	var sorted []T
	for _, x := range l {
		place := slices.IndexFunc(sorted, func(y T) bool { return less(x, y) })
		if place < 0 {
			place = len(sorted)
		}
		sorted = slices.Insert(sorted, place, x)
	}
	return sorted
}

// checkSort fails unless Sort returns what it should, and a queue gives back the same, from a list that does not change.
func checkSort(t *testing.T, l []tagged, less func(a, b tagged) bool) {
	t.Helper()
	before := slices.Clone(l)
	want := l
	if less != nil {
		want = inserted(l, less)
	}
	if sorted := pqueue.Sort(l, less); !slices.Equal(sorted, want) {
		t.Fatalf("Sort(%v) = %v; want %v", before, sorted, want)
	}
	if !slices.Equal(l, before) {
		t.Fatalf("Sort changed %v to %v", before, l)
	}
	if less == nil {
		return
	}
	q := pqueue.New(less)
	for _, x := range l {
		q.Push(x)
	}
	for _, x := range want {
		if y, ok := q.Pop(); y != x || !ok {
			t.Fatalf("of %v, Pop is %v, %v; want %v", l, y, ok, x)
		}
	}
}

// taggedList has the digits of a code as keys.
func taggedList(code, length, base int) []tagged {
	l := make([]tagged, length)
	for i := range l {
		l[i] = tagged{code % base, i}
		code /= base
	}
	return l
}

func TestSortOfAllShortLists(t *testing.T) {
	for _, less := range orders {
		for length := range 7 {
			for code := range power(4, length) {
				checkSort(t, taggedList(code, length, 4), less)
			}
		}
	}
	for code := range power(3, 9) {
		checkSort(t, taggedList(code, 9, 3), byKey)
	}
}

func TestSortOfPermutations(t *testing.T) {
	permutations(7, func(l []int) {
		sorted := pqueue.Sort(l, func(a, b int) bool { return a < b })
		if !slices.Equal(sorted, []int{0, 1, 2, 3, 4, 5, 6}) {
			t.Fatalf("Sort(%v) = %v", l, sorted)
		}
	})
}

func TestSortOfLongLists(t *testing.T) {
	random := rand.New(rand.NewSource(80))
	for name, less := range orders {
		for _, length := range []int{10, 20, 21, 40, 41, 63, 100, 500} {
			for _, keys := range []int{1, 2, 5, 1000} {
				l := make([]tagged, length)
				for i := range l {
					l[i] = tagged{random.Intn(keys) - keys/2, i}
				}
				t.Run(name, func(t *testing.T) { checkSort(t, l, less) })
			}
		}
	}
}

// Elements that are in the list several times, with the same tags, stay as many.
func TestSortOfRepeatedElements(t *testing.T) {
	random := rand.New(rand.NewSource(81))
	for range 200 {
		l := make([]tagged, random.Intn(30))
		for i := range l {
			l[i] = tagged{random.Intn(3), random.Intn(3)}
		}
		for _, less := range orders {
			checkSort(t, l, less)
		}
	}
}

// Without an order, the elements stay in theirs.
func TestSortWithoutOrder(t *testing.T) {
	for length := range 6 {
		for code := range power(3, length) {
			checkSort(t, taggedList(code, length, 3), nil)
		}
	}
}

func TestSortOfNothing(t *testing.T) {
	for _, less := range []func(a, b tagged) bool{byKey, nil} {
		for _, l := range [][]tagged{nil, {}, make([]tagged, 0, 5)} {
			if sorted := pqueue.Sort(l, less); len(sorted) != 0 {
				t.Errorf("Sort of no elements = %v", sorted)
			}
		}
	}
}

// A result shares no memory with the list, not even behind its end, nor with another result.
func TestSortedListsAreNewMemory(t *testing.T) {
	for _, less := range []func(a, b int) bool{func(a, b int) bool { return a < b }, func(a, b int) bool { return false }, nil} {
		for length := range 5 {
			whole := []int{0, 1, 2, 3, 4, 5, 6, 7}
			l := whole[:length]
			first, second := pqueue.Sort(l, less), pqueue.Sort(l, less)
			for _, sorted := range [][]int{first, second} {
				if !slices.Equal(sorted, l) {
					t.Fatalf("Sort(%v) = %v", l, sorted)
				}
			}
			for i := range first {
				first[i] = 100
			}
			_ = append(first, 101)
			_ = append(first[:0:cap(first)], make([]int, cap(first))...)
			if !slices.Equal(whole, []int{0, 1, 2, 3, 4, 5, 6, 7}) || !slices.Equal(second, l) {
				t.Errorf("a change of one result shows in the list, %v, or in the other result, %v", whole, second)
			}
			for i := range l {
				l[i] = 200
			}
			if slices.Contains(second, 200) {
				t.Errorf("a change of the list shows in the result, %v", second)
			}
		}
	}
}

// Lists of values that cannot be compared with each other are sorted by what the order sees.
func TestSortOfAnyType(t *testing.T) {
	l := [][]int{{1, 2, 3}, nil, {4}, {5, 6}, {}, {7}}
	sorted := pqueue.Sort(l, func(a, b []int) bool { return len(a) < len(b) })
	want := [][]int{nil, {}, {4}, {7}, {5, 6}, {1, 2, 3}}
	if !slices.EqualFunc(sorted, want, slices.Equal[[]int]) || sorted[0] != nil || sorted[1] == nil {
		t.Errorf("Sort = %v; want %v", sorted, want)
	}
	texts := pqueue.Sort([]string{"b", "", "a", "b"}, func(a, b string) bool { return a > b })
	if !slices.Equal(texts, []string{"b", "b", "a", ""}) {
		t.Errorf("Sort = %q", texts)
	}
}

func TestSortOfManyElements(t *testing.T) {
	const many = 1 << 17
	l := make([]tagged, many)
	for i := range l {
		l[i] = tagged{i * 7919 % 1000, i}
	}
	sorted := pqueue.Sort(l, byKey)
	if len(sorted) != many {
		t.Fatalf("Sort returns %d elements", len(sorted))
	}
	seen := make([]bool, many)
	for i, x := range sorted {
		if seen[x.tag] || x != l[x.tag] {
			t.Fatalf("element %v was not in the list as often", x)
		}
		seen[x.tag] = true
		if i > 0 && (x.key < sorted[i-1].key || x.key == sorted[i-1].key && x.tag < sorted[i-1].tag) {
			t.Fatalf("%v comes after %v", x, sorted[i-1])
		}
	}
}
