package timer_test

import (
	"errors"
	"fmt"
	"math"
	"slices"
	"strings"
	"testing"
	"unsafe"

	"bayou/api"
	"bayou/timer"
)

// wantErr holds an error against the number that is asked for; 0: none.
func wantErr(t *testing.T, what string, err error, want api.Errno) {
	t.Helper()
	var got api.Errno
	switch {
	case want == 0 && err != nil:
		t.Errorf("%s: %v, want no error", what, err)
	case want != 0 && (!errors.As(err, &got) || got != want):
		t.Errorf("%s: %v, want %v", what, err, want)
	}
}

// wantEvents holds events against those that are asked for, in their order.
func wantEvents(t *testing.T, what string, got []timer.Event, want ...timer.Event) {
	t.Helper()
	if !slices.Equal(got, want) {
		t.Errorf("%s: %v, want %v", what, got, want)
	}
}

// plain is a queue as a list without an order, gone over whole for each question.
type plain struct {
	last   int
	events []timer.Event
}

// add lays an event in, and tells its number, or which error there is.
func (p *plain) add(due int, name string) (int, api.Errno) {
	if due < 0 || due > 1<<40 {
		return 0, api.ErrRange
	}
	if len(name) > 64 {
		return 0, api.ErrLong
	}
	p.last++
	p.events = append(p.events, timer.Event{ID: p.last, Due: due, Name: name})
	return p.last, 0
}

// find is the place of a number, or -1.
func (p *plain) find(id int) int {
	return slices.IndexFunc(p.events, func(e timer.Event) bool { return e.ID == id })
}

// cancel drops an event, or tells the error.
func (p *plain) cancel(id int) api.Errno {
	at := p.find(id)
	if at < 0 {
		return api.ErrNone
	}
	p.events = slices.Delete(p.events, at, at+1)
	return 0
}

// order are all events: again and again the one that is due first, of those the smallest number.
func (p *plain) order() []timer.Event {
	left := slices.Clone(p.events)
	var l []timer.Event
	for len(left) > 0 {
		first := 0
		for i, e := range left {
			f := left[first]
			if e.Due < f.Due || e.Due == f.Due && e.ID < f.ID {
				first = i
			}
		}
		l = append(l, left[first])
		left = slices.Delete(left, first, first+1)
	}
	return l
}

// pop takes out what is due.
func (p *plain) pop(now int) []timer.Event {
	var l, left []timer.Event
	for _, e := range p.order() {
		if e.Due <= now {
			l = append(l, e)
		} else {
			left = append(left, e)
		}
	}
	p.events = left
	return l
}

// check holds all that a queue tells without a change against the list.
func (p *plain) check(t *testing.T, what string, q *timer.Queue) {
	t.Helper()
	want := p.order()
	wantEvents(t, what+": Events", q.Events(), want...)
	if n := q.Len(); n != len(want) {
		t.Errorf("%s: Len %d, want %d", what, n, len(want))
	}
	due, ok := q.Next()
	switch {
	case len(want) == 0 && (due != 0 || ok):
		t.Errorf("%s: Next %d, %v, want 0, false", what, due, ok)
	case len(want) > 0 && (due != want[0].Due || !ok):
		t.Errorf("%s: Next %d, %v, want %d, true", what, due, ok, want[0].Due)
	}
}

// both are a queue and the list, to which the same is done.
type both struct {
	t *testing.T
	q *timer.Queue
	p *plain
}

// newBoth are both without events.
func newBoth(t *testing.T) both { return both{t, timer.New(), &plain{}} }

// bothOf are both, in which events lie that are due at these times, each with a name of its own.
func bothOf(t *testing.T, dues ...int) both {
	t.Helper()
	b := newBoth(t)
	for i, due := range dues {
		b.add("laid", due, fmt.Sprint("n", i+1))
	}
	return b
}

// add lays one in, and holds what is told of it.
func (b both) add(what string, due int, name string) int {
	b.t.Helper()
	want, no := b.p.add(due, name)
	id, err := b.q.Add(due, name)
	wantErr(b.t, what+": Add", err, no)
	if id != want {
		b.t.Errorf("%s: Add: %d, want %d", what, id, want)
	}
	return id
}

// cancel drops one, and holds what is told of it.
func (b both) cancel(what string, id int) {
	b.t.Helper()
	wantErr(b.t, fmt.Sprint(what, ": Cancel ", id), b.q.Cancel(id), b.p.cancel(id))
}

// pop takes out what is due, and holds it.
func (b both) pop(what string, now int) []timer.Event {
	b.t.Helper()
	got := b.q.Pop(now)
	wantEvents(b.t, fmt.Sprint(what, ": Pop ", now), got, b.p.pop(now)...)
	return got
}

// check holds one against the other.
func (b both) check(what string) {
	b.t.Helper()
	b.p.check(b.t, what, b.q)
}

// TestExample: the chapter's example.
func TestExample(t *testing.T) {
	q := timer.New()
	for i, name := range []string{"a", "b"} {
		id, err := q.Add(5-2*i, name)
		wantErr(t, name, err, 0)
		if id != i+1 {
			t.Errorf("%s has the number %d, want %d", name, id, i+1)
		}
	}
	wantEvents(t, "Pop", q.Pop(4), timer.Event{ID: 2, Due: 3, Name: "b"})
	if due, ok := q.Next(); due != 5 || !ok {
		t.Errorf("Next %d, %v, want 5, true", due, ok)
	}
	wantEvents(t, "Events", q.Events(), timer.Event{ID: 1, Due: 5, Name: "a"})
}

// TestNew: TI1, a queue begins without events.
func TestNew(t *testing.T) {
	b := newBoth(t)
	b.check("new")
	b.pop("new", math.MaxInt)
	b.cancel("new", 1)
	b.check("new, asked")
	if b.q == timer.New() {
		t.Error("two queues are one")
	}
}

// TestAddDue: TI1, an event is due from 0 to MaxHeight; else ErrRange.
func TestAddDue(t *testing.T) {
	for _, due := range []int{0, 1, 2, 1<<31 - 1, 1 << 31, 1 << 32, api.MaxHeight - 1, api.MaxHeight} {
		b := newBoth(t)
		if id := b.add(fmt.Sprint(due), due, "a"); id != 1 {
			t.Errorf("Add at %d: %d, want 1", due, id)
		}
		wantEvents(t, fmt.Sprint(due), b.q.Events(), timer.Event{ID: 1, Due: due, Name: "a"})
		b.check(fmt.Sprint(due))
		b.pop("one below", due-1)
		b.check(fmt.Sprint(due, ", one below"))
		if l := b.pop("at it", due); len(l) != 1 {
			t.Errorf("Pop %d: %v", due, l)
		}
	}
	for _, due := range []int{-1, -2, -1 << 31, -api.MaxHeight, math.MinInt, api.MaxHeight + 1, 1 << 41, math.MaxInt} {
		b := bothOf(t, 3)
		id, err := b.q.Add(due, "a")
		wantErr(t, fmt.Sprint(due), err, api.ErrRange)
		if id != 0 {
			t.Errorf("Add at %d: %d beside an error", due, id)
		}
		b.check(fmt.Sprint("behind a due of ", due))
	}
}

// TestAddName: TI1, a name has at most MaxName bytes, whatever they are; else ErrLong.
func TestAddName(t *testing.T) {
	names := []string{"", "a", strings.Repeat("a", api.MaxName-1), strings.Repeat("a", api.MaxName), strings.Repeat("é", api.MaxName/2), strings.Repeat("\xff", api.MaxName), strings.Repeat("\x00", api.MaxName), "a\x00b\n\"'", " "}
	b := newBoth(t)
	for i, name := range names {
		b.add(fmt.Sprintf("%q", name), i, name)
	}
	b.check("all names")
	for i, e := range b.pop("all names", math.MaxInt) {
		if e.Name != names[i] {
			t.Errorf("the name %q, want %q", e.Name, names[i])
		}
	}
	for _, name := range []string{strings.Repeat("a", api.MaxName+1), strings.Repeat("\x00", api.MaxName+1), strings.Repeat("é", api.MaxName/2) + "a", strings.Repeat("é", api.MaxName), strings.Repeat("a", api.MaxName+256), strings.Repeat("a", api.MaxBytes)} {
		b := bothOf(t, 3)
		id, err := b.q.Add(0, name)
		wantErr(t, fmt.Sprint(len(name), " bytes"), err, api.ErrLong)
		if id != 0 {
			t.Errorf("Add of %d bytes: %d beside an error", len(name), id)
		}
		b.check(fmt.Sprint("behind a name of ", len(name), " bytes"))
	}
}

// TestAddAlike: TI1, events may have one Due and one name, and each has its own number.
func TestAddAlike(t *testing.T) {
	b := newBoth(t)
	for range 5 {
		b.add("alike", 7, "same")
	}
	b.cancel("alike", 3)
	b.check("alike")
	if l := b.pop("alike", 7); len(l) != 4 {
		t.Errorf("%d of 4 alike: %v", len(l), l)
	}
}

// TestAddErrors: rule 2, the errors of Add in their order: a nil queue, the due, the name.
func TestAddErrors(t *testing.T) {
	long := strings.Repeat("a", api.MaxName+1)
	for _, c := range []struct {
		due  int
		name string
		want api.Errno
	}{
		{0, "a", 0}, {-1, "a", api.ErrRange}, {api.MaxHeight + 1, "", api.ErrRange}, {0, long, api.ErrLong}, {api.MaxHeight, long, api.ErrLong},
		{-1, long, api.ErrRange}, {api.MaxHeight + 1, long, api.ErrRange}, {math.MinInt, long, api.ErrRange}, {math.MaxInt, long, api.ErrRange},
	} {
		what := fmt.Sprint("due ", c.due, ", ", len(c.name), " bytes")
		id, err := timer.New().Add(c.due, c.name)
		wantErr(t, what, err, c.want)
		if (id == 0) != (c.want != 0) {
			t.Errorf("%s: the number %d", what, id)
		}
		var none *timer.Queue
		id, err = none.Add(c.due, c.name)
		wantErr(t, what+", nil", err, api.ErrArg)
		if id != 0 {
			t.Errorf("%s, nil: the number %d", what, id)
		}
	}
}

// TestNumbers: TI1, numbers go from 1 on, and none is given twice, whatever was cancelled or popped; an Add that fails takes none.
func TestNumbers(t *testing.T) {
	b := newBoth(t)
	want := 0
	next := func(what string, due int) {
		t.Helper()
		want++
		if id := b.add(what, due, ""); id != want {
			t.Errorf("%s: the number %d, want %d", what, id, want)
		}
	}
	next("first", 9)
	next("due ahead of it", 2)
	b.cancel("the last number", 2)
	next("behind a cancelled one", 2)
	b.cancel("the only other one", 1)
	b.cancel("all", 3)
	b.check("all cancelled")
	next("behind all cancelled", 4)
	b.pop("all", 4)
	next("behind all popped", 4)
	for range 3 {
		b.add("fails", -1, "")
		b.add("fails", api.MaxHeight+1, "")
		b.add("fails", 0, strings.Repeat("a", 65))
	}
	next("behind Adds that fail", 0)
	b.cancel("none", 77)
	b.pop("none", -1)
	next("behind what did nothing", 0)
	b.check("at last")
}

// TestTwoQueues: rule 4, each queue has its own events and its own numbers.
func TestTwoQueues(t *testing.T) {
	one, other := bothOf(t, 5, 6, 7), bothOf(t, 1, 2)
	one.check("one")
	other.check("other")
	one.cancel("one", 2)
	other.pop("other", 1)
	one.check("one, behind a Cancel")
	other.check("other, behind a Pop")
	if id := other.add("other", 0, ""); id != 3 {
		t.Errorf("other: the number %d, want 3", id)
	}
	one.check("one, at last")
}

// shuffles hands over all orders of a list's things, from a place on.
func shuffles(l []int, from int, do func(l []int)) {
	if from == len(l) {
		do(slices.Clone(l))
		return
	}
	for i := from; i < len(l); i++ {
		l[from], l[i] = l[i], l[from]
		shuffles(l, from+1, do)
		l[from], l[i] = l[i], l[from]
	}
}

// rows are dues, some of them alike.
func rows() [][]int {
	return [][]int{{}, {4}, {0, 0}, {0, 1}, {1, 2, 3}, {5, 5, 9}, {5, 9, 9}, {3, 3, 3, 3}, {1, 2, 3, 4}, {0, 0, 1, 1, 2}, {1, 2, 3, 4, 5, 6}, {0, 2, 2, 2, api.MaxHeight, api.MaxHeight}}
}

// TestOrder: TI1, the order is by Due, then by number, in whatever order events were laid in.
func TestOrder(t *testing.T) {
	for _, row := range rows() {
		shuffles(row, 0, func(dues []int) {
			b := bothOf(t, dues...)
			b.check(fmt.Sprint(dues))
			l := b.pop(fmt.Sprint(dues), api.MaxHeight)
			for i := 1; i < len(l); i++ {
				a, e := l[i-1], l[i]
				if a.Due > e.Due || a.Due == e.Due && a.ID >= e.ID {
					t.Errorf("%v: %v ahead of %v", dues, a, e)
				}
			}
			b.check(fmt.Sprint(dues, ", popped"))
		})
	}
}

// TestOneDue: TI1, many events with one Due come by their numbers, as numbers, not as text.
func TestOneDue(t *testing.T) {
	b := newBoth(t)
	for n := range 200 {
		b.add("many", 7, fmt.Sprint(1000-n))
	}
	b.check("many")
	for _, id := range []int{1, 10, 99, 100, 101, 200} {
		b.cancel("many", id)
		b.check(fmt.Sprint("many, without ", id))
	}
	b.pop("one below", 6)
	l := b.pop("many", 7)
	if len(l) != 194 || l[0].ID != 2 || l[193].ID != 199 {
		t.Errorf("%d events: %v", len(l), l)
	}
	if !slices.IsSortedFunc(l, func(a, b timer.Event) int { return a.ID - b.ID }) {
		t.Errorf("not by their numbers: %v", l)
	}
}

// TestCancel: TI1, an event that waits is dropped, the first one, the last one or one between; else ErrNone.
func TestCancel(t *testing.T) {
	for _, row := range rows() {
		shuffles(row, 0, func(dues []int) {
			for id := range len(dues) + 2 {
				what := fmt.Sprint(dues, " without ", id)
				b := bothOf(t, dues...)
				b.cancel(what, id)
				b.check(what)
				b.cancel(what+", again", id)
				b.check(what + ", again")
				b.pop(what, 2)
				b.check(what + ", popped")
				b.pop(what, api.MaxHeight)
				b.check(what + ", all popped")
			}
		})
	}
}

// TestCancelNone: TI1, ErrNone of a number that none has, was cancelled, or was popped, and nothing changes.
func TestCancelNone(t *testing.T) {
	b := bothOf(t, 4, 2, 6, 8)
	odd := []int{0, -1, -4, 5, 6, 1 << 32, 1<<32 + 1, math.MinInt, math.MaxInt}
	none := func(what string, ids ...int) {
		t.Helper()
		for _, id := range append(ids, odd...) {
			wantErr(t, fmt.Sprint(what, ": ", id), b.q.Cancel(id), api.ErrNone)
			b.check(fmt.Sprint(what, ": behind ", id))
		}
	}
	none("all wait")
	b.cancel("one", 3)
	none("3 cancelled", 3)
	b.pop("one", 3)
	none("2 popped", 3, 2)
	b.pop("one", 7)
	none("1 popped", 3, 2, 1)
	b.cancel("the last", 4)
	none("all gone", 4, 3, 2, 1)
	if id := b.add("anew", 2, "n2"); id != 5 {
		t.Errorf("the number %d, want 5", id)
	}
	wantErr(t, "a number that was none, and is one now", b.q.Cancel(5), 0)
}

// TestCancelSome: TI2, those that were cancelled, in whatever order, are not popped, and all others are.
func TestCancelSome(t *testing.T) {
	shuffles([]int{1, 2, 2, 3, 4, 4}, 0, func(dues []int) {
		for some := range 1 << len(dues) {
			q := timer.New()
			for _, due := range dues {
				q.Add(due, "")
			}
			left := 0
			for i := range dues {
				id := i + 1
				if some&1 == 1 { // from the greatest number down
					id = len(dues) - i
				}
				if some>>(id-1)&1 == 0 {
					left++
				} else if err := q.Cancel(id); err != nil {
					t.Fatalf("%v: Cancel %d: %v", dues, id, err)
				}
			}
			if q.Len() != left {
				t.Fatalf("%v without %b: %d left, want %d", dues, some, q.Len(), left)
			}
			before := timer.Event{}
			for _, e := range q.Pop(4) {
				if some>>(e.ID-1)&1 == 1 || e.Due != dues[e.ID-1] || e.Due < before.Due || e.Due == before.Due && e.ID <= before.ID {
					t.Fatalf("%v without %b: %v behind %v", dues, some, e, before)
				}
				before, left = e, left-1
			}
			if left != 0 || q.Len() != 0 {
				t.Fatalf("%v without %b: %d not popped, %d left", dues, some, left, q.Len())
			}
		}
	})
}

// TestNext: TI1, the first one's Due, of one and of many, behind what was laid ahead of it, cancelled and popped; of none 0 and false.
func TestNext(t *testing.T) {
	b := newBoth(t)
	want := func(what string, due int, ok bool) {
		t.Helper()
		for range 2 {
			if d, k := b.q.Next(); d != due || k != ok {
				t.Errorf("%s: Next %d, %v, want %d, %v", what, d, k, due, ok)
			}
		}
	}
	want("none", 0, false)
	b.add("one", 7, "a")
	want("one", 7, true)
	b.add("behind it", 9, "b")
	want("behind it", 7, true)
	b.add("ahead of it", 3, "c")
	want("ahead of it", 3, true)
	b.add("at 0", 0, "d")
	want("at 0", 0, true)
	b.cancel("the first", 4)
	want("without the first", 3, true)
	b.cancel("one between", 1)
	want("without one between", 3, true)
	b.pop("the first", 3)
	want("first popped", 9, true)
	b.pop("below", 8)
	want("none popped", 9, true)
	b.cancel("the only one", 2)
	want("none left", 0, false)
	b.add("last time that may be", api.MaxHeight, "")
	want("last time that may be", api.MaxHeight, true)
	b.pop("all", api.MaxHeight)
	want("all popped", 0, false)
	b.add("fails", -1, "")
	want("behind an Add that fails", 0, false)
}

// TestPop: TI1, Pop takes all whose Due is not above now, and no other one: below the first, at it, between two, above all, below 0.
func TestPop(t *testing.T) {
	dues := []int{8, 0, 5, 3, 5, 8, 1, 5}
	for _, c := range []struct {
		now  int
		want []int // their numbers
	}{
		{math.MinInt, nil}, {-1, nil}, {0, []int{2}}, {1, []int{2, 7}}, {2, []int{2, 7}}, {3, []int{2, 7, 4}}, {4, []int{2, 7, 4}}, {5, []int{2, 7, 4, 3, 5, 8}},
		{7, []int{2, 7, 4, 3, 5, 8}}, {8, []int{2, 7, 4, 3, 5, 8, 1, 6}}, {9, []int{2, 7, 4, 3, 5, 8, 1, 6}}, {api.MaxHeight + 1, []int{2, 7, 4, 3, 5, 8, 1, 6}}, {math.MaxInt, []int{2, 7, 4, 3, 5, 8, 1, 6}},
	} {
		b := bothOf(t, dues...)
		var got []int
		for _, e := range b.pop("some", c.now) {
			got = append(got, e.ID)
			if e.Due != dues[e.ID-1] || e.Name != fmt.Sprint("n", e.ID) {
				t.Errorf("Pop %d: %v", c.now, e)
			}
		}
		if !slices.Equal(got, c.want) {
			t.Errorf("Pop %d: %v, want %v", c.now, got, c.want)
		}
		b.check(fmt.Sprint("behind Pop ", c.now))
		wantEvents(t, fmt.Sprint("Pop ", c.now, " twice"), b.q.Pop(c.now))
		b.check(fmt.Sprint("behind Pop ", c.now, " twice"))
		for _, id := range c.want {
			wantErr(t, "popped", b.q.Cancel(id), api.ErrNone)
		}
		b.pop("a time that goes back", c.now-5)
		b.check("behind a time that goes back")
		b.pop("the others", math.MaxInt)
		b.check("behind all")
	}
}

// TestPopOne: TI1, Pop ahead of the first one's Due takes none, whatever waits.
func TestPopOne(t *testing.T) {
	for _, due := range []int{0, 1, 7, 1 << 32, api.MaxHeight} {
		b := bothOf(t, due)
		for _, now := range []int{math.MinInt, -1, due - 1, due/2 - 1} {
			wantEvents(t, fmt.Sprint("Pop ", now, " ahead of ", due), b.q.Pop(now))
			b.check(fmt.Sprint("ahead of ", due))
		}
		wantEvents(t, fmt.Sprint("Pop at ", due), b.q.Pop(due), timer.Event{ID: 1, Due: due, Name: "n1"})
		wantEvents(t, fmt.Sprint("Pop at ", due, ", again"), b.q.Pop(due))
	}
}

// TestLate: TI2, an event that is laid in behind its Due is popped at the next time, as it is the first one that is asked for; a time that goes back pops what is due by then alone.
func TestLate(t *testing.T) {
	b := bothOf(t, 10)
	b.pop("all", 20)
	late := b.add("late", 5, "late")
	b.check("late")
	b.add("later", 15, "later")
	b.pop("back ahead of it", 4)
	b.check("back ahead of it")
	wantEvents(t, "back", b.pop("back", 5), timer.Event{ID: late, Due: 5, Name: "late"})
	b.add("late again", 3, "again")
	if l := b.pop("on", 21); len(l) != 2 || l[0].Name != "again" || l[1].Name != "later" {
		t.Errorf("popped %v", l)
	}
	b.check("at last")
}

// TestEvents: TI1, Events tells all in order, and takes none away.
func TestEvents(t *testing.T) {
	b := bothOf(t, 3, 1, 2, 1)
	want := []timer.Event{{ID: 2, Due: 1, Name: "n2"}, {ID: 4, Due: 1, Name: "n4"}, {ID: 3, Due: 2, Name: "n3"}, {ID: 1, Due: 3, Name: "n1"}}
	for range 3 {
		wantEvents(t, "Events", b.q.Events(), want...)
		if b.q.Len() != 4 {
			t.Errorf("Len %d behind Events, want 4", b.q.Len())
		}
	}
	b.cancel("one", 4)
	wantEvents(t, "behind Cancel", b.q.Events(), want[0], want[2], want[3])
	b.pop("one", 1)
	wantEvents(t, "behind Pop", b.q.Events(), want[2:]...)
	b.add("one", 2, "n5")
	wantEvents(t, "behind Add", b.q.Events(), want[2], timer.Event{ID: 5, Due: 2, Name: "n5"}, want[3])
	wantEvents(t, "Pop", b.q.Pop(3), want[2], timer.Event{ID: 5, Due: 2, Name: "n5"}, want[3])
	wantEvents(t, "behind all", b.q.Events())
}

// TestNil: TI1, a nil Queue: ErrArg, and nothing.
func TestNil(t *testing.T) {
	var q *timer.Queue
	for range 2 {
		id, err := q.Add(5, "a")
		wantErr(t, "Add", err, api.ErrArg)
		if id != 0 {
			t.Errorf("Add: %d", id)
		}
		for _, id := range []int{0, 1, -1, math.MaxInt, math.MinInt} {
			wantErr(t, "Cancel", q.Cancel(id), api.ErrArg)
		}
		for _, now := range []int{0, 5, -1, api.MaxHeight, math.MaxInt, math.MinInt} {
			wantEvents(t, "Pop", q.Pop(now))
		}
		(&plain{}).check(t, "nil", q)
	}
}

// dice are numbers without an order, the same ones each time.
type dice uint64

// next is a number from 0 to n - 1.
func (d *dice) next(n int) int {
	*d = *d*6364136223846793005 + 1442695040888963407
	return int(*d >> 33 % dice(n))
}

// TestOnce: TI2, each event is popped once, at the first time that is not below its Due, or cancelled, and never both.
func TestOnce(t *testing.T) {
	for seed := range 40 {
		d, q := dice(seed), timer.New()
		first := map[int]int{} // the first time, from its Add on, that is not below its Due
		due, ends := map[int]int{}, map[int]string{}
		end := func(id int, how string) {
			if ends[id] != "" {
				t.Errorf("seed %d: %d is %s, and was %s", seed, id, how, ends[id])
			}
			ends[id] = how
		}
		for now := 0; now < 400; now += 1 + d.next(9) {
			for range d.next(6) {
				at := now + d.next(60) - 5
				id, err := q.Add(max(at, 0), "")
				wantErr(t, "Add", err, 0)
				due[id] = max(at, 0)
			}
			for range d.next(3) {
				if id := 1 + d.next(len(due)+1); q.Cancel(id) == nil {
					end(id, "cancelled")
				}
			}
			for id, at := range due {
				if _, known := first[id]; !known && at <= now {
					first[id] = now
				}
			}
			for _, e := range q.Pop(now) {
				end(e.ID, "popped")
				if first[e.ID] != now || e.Due != due[e.ID] || e.Due > now {
					t.Errorf("seed %d: %v popped at %d, due at %d, which %d was the first for", seed, e, now, due[e.ID], first[e.ID])
				}
			}
			for id, at := range due {
				if at <= now && ends[id] == "" {
					t.Errorf("seed %d: %d, due at %d, still waits at %d", seed, id, at, now)
				}
			}
		}
		for _, e := range q.Pop(math.MaxInt) {
			end(e.ID, "popped")
		}
		if len(ends) != len(due) || len(due) < 50 {
			t.Errorf("seed %d: %d of %d have ended", seed, len(ends), len(due))
		}
	}
}

// TestAny: TI1 and TI2, a queue to which anything is done, with times that go on and back, is the plain list.
func TestAny(t *testing.T) {
	for seed := range 60 {
		d, b := dice(1000+seed), newBoth(t)
		most := 1 + seed%12*3 // few dues: many alike
		for n := range 250 {
			what := fmt.Sprint("seed ", seed, ", step ", n)
			switch d.next(10) {
			case 0:
				b.pop(what, d.next(most+2)-1)
			case 1, 2, 3:
				b.cancel(what, d.next(b.p.last+3)-1)
			case 4:
				b.add(what, -1-d.next(2), strings.Repeat("b", 60+d.next(8)))
			default:
				b.add(what, d.next(most), strings.Repeat("a", d.next(67)))
			}
			b.check(what)
		}
		b.pop("at last", most)
		b.check("at last")
	}
}

// fill overwrites a list, and its spare room.
func fill(l []timer.Event) {
	l = l[:cap(l)]
	for i := range l {
		l[i] = timer.Event{ID: 77, Due: -77, Name: "changed"}
	}
}

// TestMemoryOut: rule 3, who changes what was told by Events or Pop changes nothing of the queue, nor what was told elsewhere.
func TestMemoryOut(t *testing.T) {
	for n := range 20 {
		b := newBoth(t)
		for i := range n {
			b.add("laid", i*7%10, fmt.Sprint(i))
		}
		fill(b.q.Events())
		b.check("Events changed")
		one, other := b.q.Events(), b.q.Events()
		fill(one)
		wantEvents(t, "told beside it", other, b.p.order()...)
		fill(b.pop("some", 3))
		b.check("Pop changed")
		l := b.q.Events()
		fill(l[:0])
		b.check("Events changed from its beginning on")
		fill(append(b.q.Events(), timer.Event{ID: 5}))
		b.check("Events with one more")
		for id := range n + 1 {
			if id%2 == 0 {
				b.cancel("even", id)
			}
		}
		b.check("cancelled")
		fill(b.pop("all", 9))
		b.check("all")
		b.add("anew", 2, "anew")
		b.check("anew")
	}
}

// TestMemoryStays: rule 3, what was told stays as it was told, whatever is done to the queue.
func TestMemoryStays(t *testing.T) {
	b := bothOf(t, 5, 3, 8, 1, 9, 3)
	all := b.q.Events()
	wantAll := slices.Clone(all)
	some := b.pop("some", 3)
	wantSome := slices.Clone(some)
	for n := range 50 {
		b.add("more", n%10, "more")
	}
	b.cancel("one", 1)
	b.pop("more", 6)
	b.q.Events()
	wantEvents(t, "Events", all, wantAll...)
	wantEvents(t, "Pop", some, wantSome...)
}

// TestMemoryIn: rule 3, a name is not kept as the text that was handed in, but as a copy.
func TestMemoryIn(t *testing.T) {
	room := []byte("a text of which a name is cut")
	q := timer.New()
	_, err := q.Add(4, unsafe.String(&room[2], 4))
	wantErr(t, "Add", err, 0)
	if string(room) != "a text of which a name is cut" {
		t.Errorf("the text is %q", room)
	}
	for i := range room {
		room[i] = 'x'
	}
	want := timer.Event{ID: 1, Due: 4, Name: "text"}
	wantEvents(t, "Events", q.Events(), want)
	wantEvents(t, "Pop", q.Pop(4), want)
}

// TestAskingChangesNothing: rule 4, a queue that is asked often does what one does that is not asked.
func TestAskingChangesNothing(t *testing.T) {
	asked, silent := bothOf(t, 4, 4, 2, 9, 2), bothOf(t, 4, 4, 2, 9, 2)
	for range 5 {
		asked.check("asked")
		asked.q.Pop(1)
		wantErr(t, "asked", asked.q.Cancel(9), api.ErrNone)
		asked.add("asked", -1, "")
	}
	for _, b := range []both{asked, silent} {
		b.cancel("both", 3)
		if id := b.add("both", 3, "n"); id != 6 {
			t.Errorf("the number %d, want 6", id)
		}
		b.pop("both", 4)
		b.check("both")
	}
	wantEvents(t, "asked", asked.q.Events(), silent.q.Events()...)
}

// TestMany: rule 1, calls end at once, where many events wait: each Add, Cancel and Pop of one does not go over all of them.
func TestMany(t *testing.T) {
	const many = 1 << 17
	q := timer.New()
	for n := range many {
		if id, err := q.Add(n*7919%many, "one of many"); err != nil || id != n+1 {
			t.Fatalf("Add: %d, %v", id, err)
		}
	}
	for n := range many {
		if n%4 == 3 {
			if err := q.Cancel(n + 1); err != nil {
				t.Fatalf("Cancel %d: %v", n+1, err)
			}
		}
	}
	if l := q.Events(); q.Len() != many*3/4 || len(l) != many*3/4 || l[0] != (timer.Event{ID: 1, Name: "one of many"}) {
		t.Fatalf("%d wait: %d", q.Len(), len(l))
	}
	for now := range many / 2 {
		due, ok := q.Next()
		l := q.Pop(now)
		switch {
		case !ok || due < now:
			t.Fatalf("Next at %d: %d, %v", now, due, ok)
		case due > now && len(l) > 0, due == now && (len(l) != 1 || l[0].Due != now):
			t.Fatalf("Pop %d: %v", now, l)
		}
	}
	left := q.Len()
	if l := q.Pop(many); len(l) != left || !slices.IsSortedFunc(l, func(a, b timer.Event) int { return a.Due - b.Due }) {
		t.Fatalf("%d popped of %d", len(l), left)
	}
	(&plain{}).check(t, "all popped", q)
}

// FuzzQueue: TI1 and TI2, a queue in which is laid, cancelled and popped, in any order, is the plain list. Three bytes are a step.
func FuzzQueue(f *testing.F) {
	f.Add([]byte{0, 5, 1, 0, 3, 1, 2, 4, 0, 1, 1, 0, 2, 9, 0})
	f.Add([]byte{0, 9, 1, 0, 9, 2, 0, 8, 3, 1, 3, 0, 0, 7, 4, 1, 3, 0, 1, 1, 0, 2, 8, 0, 2, 0, 0, 2, 250, 0})
	f.Add([]byte{0, 255, 1, 0, 254, 70, 0, 0, 65, 0, 0, 64, 2, 255, 0})
	f.Fuzz(func(t *testing.T, steps []byte) {
		b := newBoth(t)
		steps = steps[:min(len(steps), 300)]
		for ; len(steps) >= 3; steps = steps[3:] {
			number := int(int8(steps[1]))
			switch steps[0] % 4 {
			case 1:
				b.cancel("fuzz", number)
			case 2:
				b.pop("fuzz", number)
			case 3:
				b.add("fuzz", api.MaxHeight+number, "late")
			default:
				b.add("fuzz", number, strings.Repeat("a", int(steps[2]%80)))
			}
			b.check("behind a step")
		}
		b.pop("at last", api.MaxHeight)
		b.check("at last")
	})
}
