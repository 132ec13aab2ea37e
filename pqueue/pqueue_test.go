package pqueue_test

import (
	"math"
	"math/rand"
	"slices"
	"strings"
	"testing"

	"recycling/pqueue"
)

// tagged is ordered by its key alone; the tag tells equal values apart.
type tagged struct {
	key, tag int
}

func byKey(a, b tagged) bool { return a.key < b.key }

// orders are orders of tagged values: total ones, ones with classes of equal values, and one in which all are equal.
var orders = map[string]func(a, b tagged) bool{
	"ascending":   byKey,
	"descending":  func(a, b tagged) bool { return a.key > b.key },
	"halves":      func(a, b tagged) bool { return a.key/2 < b.key/2 },
	"even first":  func(a, b tagged) bool { return a.key%2 < b.key%2 },
	"all equal":   func(a, b tagged) bool { return false },
	"latest tags": func(a, b tagged) bool { return a.tag > b.tag },
	"key and tag": func(a, b tagged) bool { return a.key < b.key || a.key == b.key && a.tag < b.tag },
}

// listed is a queue by its definition: a list of values in the order in which they were pushed.
type listed[T any] struct {
	less   func(a, b T) bool
	values []T
}

// first returns the place of the first value: the first one that no other value is less than.
func (q *listed[T]) first() int {
	return slices.IndexFunc(q.values, func(a T) bool {
		return !slices.ContainsFunc(q.values, func(b T) bool { return q.less(b, a) })
	})
}

// pair is a queue together with what it should be.
type pair struct {
	t        *testing.T
	queue    *pqueue.Queue[tagged]
	expected listed[tagged]
	done     []string
}

func newPair(t *testing.T, less func(a, b tagged) bool) *pair {
	return &pair{t: t, queue: pqueue.New(less), expected: listed[tagged]{less: less}}
}

// check fails unless the queue has the length and the first value that it should have.
func (p *pair) check() {
	p.t.Helper()
	if n := p.queue.Len(); n != len(p.expected.values) {
		p.t.Fatalf("after %v Len is %d; want %d", p.done, n, len(p.expected.values))
	}
	var want tagged
	place := p.expected.first()
	if place >= 0 {
		want = p.expected.values[place]
	}
	if x, ok := p.queue.Peek(); x != want || ok != (place >= 0) {
		p.t.Fatalf("after %v Peek is %v, %v; want %v, %v", p.done, x, ok, want, place >= 0)
	}
}

func (p *pair) push(x tagged) {
	p.t.Helper()
	p.queue.Push(x)
	p.expected.values = append(p.expected.values, x)
	p.done = append(p.done, "Push")
	p.check()
}

func (p *pair) pop() {
	p.t.Helper()
	p.done = append(p.done, "Pop")
	var want tagged
	place := p.expected.first()
	if place >= 0 {
		want = p.expected.values[place]
		p.expected.values = slices.Delete(p.expected.values, place, place+1)
	}
	if x, ok := p.queue.Pop(); x != want || ok != (place >= 0) {
		p.t.Fatalf("%v is %v, %v; want %v, %v", p.done, x, ok, want, place >= 0)
	}
	p.check()
}

// drain pops all values, and once more.
func (p *pair) drain() {
	p.t.Helper()
	for len(p.expected.values) > 0 {
		p.pop()
	}
	p.pop()
}

// run takes the steps that the digits of a code are, by the base: a push of the key that the digit is, or a pop if it is the greatest one.
func (p *pair) run(code, steps, base int) {
	p.t.Helper()
	for step := range steps {
		if digit := code % base; digit == base-1 {
			p.pop()
		} else {
			p.push(tagged{digit, step})
		}
		code /= base
	}
}

func power(base, exponent int) int {
	product := 1
	for range exponent {
		product *= base
	}
	return product
}

// All sequences of a few pushes and pops are compared with a list that is searched.
func TestAllShortSequences(t *testing.T) {
	const steps, base = 7, 4
	for code := range power(base, steps) {
		p := newPair(t, byKey)
		p.check()
		p.run(code, steps, base)
		p.drain()
	}
}

func TestShortSequencesWithEveryOrder(t *testing.T) {
	const steps, base = 5, 5
	for _, less := range orders {
		for code := range power(base, steps) {
			p := newPair(t, less)
			p.run(code, steps, base)
			p.drain()
		}
	}
}

// All short lists of three keys leave a queue in increasing order, equal ones in the order in which they came.
func TestAllShortListsLeave(t *testing.T) {
	const base = 3
	for length := range 9 {
		for code := range power(base, length) {
			p := newPair(t, byKey)
			for _, x := range taggedList(code, length, base) {
				p.push(x)
			}
			p.drain()
		}
	}
}

func permutations(n int, yield func(l []int)) {
	l := make([]int, n)
	var place func(k int)
	place = func(k int) {
		if k == n {
			yield(l)
			return
		}
		for i := range n {
			if !slices.Contains(l[:k], i) {
				l[k] = i
				place(k + 1)
			}
		}
	}
	place(0)
}

// Different values leave in increasing order, whatever order they came in.
func TestPermutations(t *testing.T) {
	permutations(8, func(l []int) {
		q := pqueue.New(func(a, b int) bool { return a < b })
		for _, x := range l {
			q.Push(x)
		}
		for want := range l {
			if x, ok := q.Pop(); x != want || !ok {
				t.Fatalf("of %v, Pop %d is %d, %v", l, want, x, ok)
			}
		}
		if x, ok := q.Pop(); x != 0 || ok {
			t.Fatalf("Pop of an empty queue is %d, %v", x, ok)
		}
	})
}

// Long sequences of random steps, in which the queue grows, shrinks and becomes empty.
func TestRandomSequences(t *testing.T) {
	random := rand.New(rand.NewSource(8))
	for name, less := range orders {
		for _, keys := range []int{1, 2, 10, 1000} {
			t.Run(name, func(t *testing.T) {
				p := newPair(t, less)
				for step := range 300 {
					// Periods with more pushes than pops alternate with periods with more pops.
					if grows := step/50%2 == 0; random.Intn(4) > 0 == grows {
						p.push(tagged{random.Intn(keys) - keys/2, step})
					} else {
						p.pop()
					}
				}
				p.drain()
			})
		}
	}
}

// The queue in use keeps the order of equal values over any number of pops between their pushes.
func TestEqualValuesLeaveInTheirOrder(t *testing.T) {
	q := pqueue.New(func(a, b tagged) bool { return false })
	popped := 0
	for tag := range 10000 {
		q.Push(tagged{tag * 7919 % 100, tag})
		if tag%3 > 0 {
			x, ok := q.Pop()
			if x.tag != popped || !ok {
				t.Fatalf("Pop is %v, %v; want the tag %d", x, ok, popped)
			}
			popped++
		}
	}
	for ; popped < 10000; popped++ {
		if x, ok := q.Pop(); x.tag != popped || !ok {
			t.Fatalf("Pop is %v, %v; want the tag %d", x, ok, popped)
		}
	}
}

// A value can be in a queue more than once, and it leaves as often as it was pushed.
func TestRepeatedValues(t *testing.T) {
	q := pqueue.New(func(a, b string) bool { return a < b })
	for range 3 {
		for _, s := range []string{"b", "a", "b", "c", "b"} {
			q.Push(s)
		}
	}
	for i, want := range strings.Split("a a a b b b b b b b b b c c c", " ") {
		if n := q.Len(); n != 15-i {
			t.Errorf("Len is %d; want %d", n, 15-i)
		}
		if s, ok := q.Pop(); s != want || !ok {
			t.Errorf("Pop is %q, %v; want %q", s, ok, want)
		}
	}
}

func TestExamples(t *testing.T) {
	q := pqueue.New(func(a, b int) bool { return a < b })
	for _, x := range []int{3, 1, 2, 1} {
		q.Push(x)
	}
	for _, want := range []int{1, 1, 2, 3} {
		if x, ok := q.Pop(); x != want || !ok {
			t.Errorf("Pop is %d, %v; want %d", x, ok, want)
		}
	}
	if x, ok := q.Pop(); x != 0 || ok {
		t.Errorf("Pop of an empty queue is %d, %v", x, ok)
	}
	type lettered struct {
		n int
		s string
	}
	l := []lettered{{2, "a"}, {1, "b"}, {2, "c"}, {1, "d"}}
	letters := pqueue.New(func(a, b lettered) bool { return a.n < b.n })
	for _, x := range l {
		letters.Push(x)
	}
	for _, want := range []lettered{l[1], l[3], l[0], l[2]} {
		if x, ok := letters.Pop(); x != want || !ok {
			t.Errorf("Pop is %v, %v; want %v", x, ok, want)
		}
	}
}

// checkEmpty fails unless the queue has no value, and says so with zero values.
func checkEmpty[T any](t *testing.T, q *pqueue.Queue[T], isZero func(T) bool) {
	t.Helper()
	if n := q.Len(); n != 0 {
		t.Errorf("Len is %d", n)
	}
	if x, ok := q.Peek(); !isZero(x) || ok {
		t.Errorf("Peek is %v, %v", x, ok)
	}
	if x, ok := q.Pop(); !isZero(x) || ok {
		t.Errorf("Pop is %v, %v", x, ok)
	}
}

// checkType has an empty queue of a type, a nil one, and one that the value x, which is not the zero value, was in.
func checkType[T any](t *testing.T, x T, isZero func(T) bool) {
	t.Helper()
	if isZero(x) {
		t.Fatalf("%v is the zero value", x)
	}
	q := pqueue.New(func(a, b T) bool { return false })
	if q == nil {
		t.Fatal("New returns nil for an order")
	}
	checkEmpty(t, q, isZero)
	q.Push(x)
	if y, ok := q.Peek(); isZero(y) || !ok || q.Len() != 1 {
		t.Errorf("Peek is %v, %v; Len %d", y, ok, q.Len())
	}
	if y, ok := q.Pop(); isZero(y) || !ok {
		t.Errorf("Pop is %v, %v", y, ok)
	}
	checkEmpty(t, q, isZero)
	var zero T
	q.Push(zero)
	if y, ok := q.Pop(); !isZero(y) || !ok {
		t.Errorf("Pop of the zero value is %v, %v", y, ok)
	}
	none := pqueue.New[T](nil)
	if none != nil {
		t.Fatal("New returns a queue without an order")
	}
	checkEmpty(t, none, isZero)
	none.Push(x)
	checkEmpty(t, none, isZero)
	checkEmpty[T](t, nil, isZero)
}

// is returns whether a value is the zero value of its type.
func is[T comparable](x T) bool {
	var zero T
	return x == zero
}

// Queues hold values of any type, comparable or not.
func TestTypes(t *testing.T) {
	n := 1
	checkType(t, 7, is)
	checkType(t, "text", is)
	checkType(t, 0.5, is)
	checkType(t, true, is)
	checkType(t, &n, is)
	checkType(t, tagged{0, 1}, is)
	checkType(t, [2]string{"", "b"}, is)
	checkType(t, any("value"), is)
	checkType(t, make(chan int), is)
	checkType(t, []int{}, func(x []int) bool { return x == nil })
	checkType(t, map[string]int{}, func(x map[string]int) bool { return x == nil })
	checkType(t, func() {}, func(x func()) bool { return x == nil })
}

// Values without any memory are still counted.
func TestEmptyStructs(t *testing.T) {
	q := pqueue.New(func(a, b struct{}) bool { return false })
	for i := range 10 {
		q.Push(struct{}{})
		if q.Len() != i+1 {
			t.Errorf("Len is %d; want %d", q.Len(), i+1)
		}
	}
	for i := range 10 {
		if _, ok := q.Pop(); !ok || q.Len() != 9-i {
			t.Errorf("Pop says %v, Len is %d; want %d", ok, q.Len(), 9-i)
		}
	}
	if _, ok := q.Pop(); ok {
		t.Error("Pop of an empty queue has a value")
	}
}

// Each queue has an order and values of its own.
func TestQueuesAreIndependent(t *testing.T) {
	up := pqueue.New(func(a, b int) bool { return a < b })
	down := pqueue.New(func(a, b int) bool { return a > b })
	for x := range 10 {
		up.Push(x)
		down.Push(x + 100)
	}
	for x := range 10 {
		least, _ := up.Pop()
		greatest, _ := down.Pop()
		if least != x || greatest != 109-x {
			t.Errorf("the values are %d and %d; want %d and %d", least, greatest, x, 109-x)
		}
	}
}

// Peek, however often it is called, changes nothing, and returns what Pop returns then.
func TestPeekKeepsTheValue(t *testing.T) {
	q := pqueue.New(byKey)
	for tag := range 100 {
		q.Push(tagged{tag * 37 % 10, tag})
	}
	for n := 100; n > 0; n-- {
		first, _ := q.Peek()
		for range 3 {
			if x, ok := q.Peek(); x != first || !ok || q.Len() != n {
				t.Fatalf("Peek is %v, %v, Len %d; want %v, Len %d", x, ok, q.Len(), first, n)
			}
		}
		if x, ok := q.Pop(); x != first || !ok {
			t.Fatalf("Pop is %v, %v; want %v", x, ok, first)
		}
	}
}

// The numbers of an order are compared by the order alone, up to the ends of their type.
func TestExtremeNumbers(t *testing.T) {
	q := pqueue.New(func(a, b int) bool { return a < b })
	l := []int{0, math.MaxInt, -1, math.MinInt, 1, math.MinInt + 1, math.MaxInt - 1, math.MinInt, math.MaxInt}
	for _, x := range l {
		q.Push(x)
	}
	slices.Sort(l)
	for _, want := range l {
		if x, ok := q.Pop(); x != want || !ok {
			t.Errorf("Pop is %d, %v; want %d", x, ok, want)
		}
	}
}

// Many values, in the orders that a search would meet, leave in the order in which a list of them is sorted.
func TestManyValues(t *testing.T) {
	const many = 1 << 16
	random := rand.New(rand.NewSource(88))
	for name, key := range map[string]func(i int) int{
		"ascending":  func(i int) int { return i },
		"descending": func(i int) int { return many - i },
		"equal":      func(i int) int { return 0 },
		"mountain":   func(i int) int { return min(i, many-i) },
		"random":     func(i int) int { return random.Intn(many / 8) },
	} {
		l := make([]tagged, many)
		q := pqueue.New(byKey)
		for i := range l {
			l[i] = tagged{key(i), i}
			q.Push(l[i])
		}
		slices.SortFunc(l, func(a, b tagged) int {
			if a.key != b.key {
				return a.key - b.key
			}
			return a.tag - b.tag
		})
		for i, want := range l {
			if x, ok := q.Pop(); x != want || !ok || q.Len() != many-1-i {
				t.Fatalf("%s: Pop %d is %v, %v, Len %d; want %v", name, i, x, ok, q.Len(), want)
			}
		}
	}
}

// Of functions that are no order, only that the calls return is promised, even if they use the queue itself.
func TestNoOrders(t *testing.T) {
	random := rand.New(rand.NewSource(888))
	var used *pqueue.Queue[int]
	calls := 0
	for name, less := range map[string]func(a, b int) bool{
		"always": func(a, b int) bool { return true },
		"at most": func(a, b int) bool {
			return a <= b
		},
		"circle": func(a, b int) bool { return (a+1)%3 == b%3 },
		"random": func(a, b int) bool { return random.Intn(2) == 0 },
		"pops": func(a, b int) bool {
			if calls++; calls%3 == 0 {
				used.Pop()
			}
			return a < b
		},
		"pushes": func(a, b int) bool {
			if calls++; calls%50 == 0 {
				used.Push(calls)
			}
			return a < b
		},
		"empties": func(a, b int) bool {
			if calls++; calls%40 == 0 {
				for used.Len() > 0 {
					used.Pop()
				}
			}
			return a < b
		},
	} {
		t.Run(name, func(t *testing.T) {
			calls = 0
			used = pqueue.New(less)
			var l []int
			for range 200 {
				used.Push(random.Intn(10))
				l = append(l, random.Intn(10))
				if random.Intn(4) == 0 {
					used.Pop()
				}
			}
			pqueue.Sort(l, less)
			for range 1000 {
				used.Peek()
				used.Pop()
			}
		})
	}
}
