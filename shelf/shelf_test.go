package shelf_test

import (
	"errors"
	"fmt"
	"math"
	"slices"
	"strings"
	"testing"

	"bayou/api"
	"bayou/pages"
	"bayou/shelf"
)

// wantErr holds an error against the number that is asked for; 0: none.
func wantErr(t *testing.T, what string, err error, want api.Errno) {
	t.Helper()
	var got api.Errno
	switch {
	case want == 0 && err != nil:
		t.Errorf("%s: %v, want no error", what, err)
	case want != 0 && (!errors.As(err, &got) || got != want):
		t.Errorf("%s: %v, want %v", what, err, want)
	}
}

// newStore is a store of so many pages, which must be.
func newStore(t *testing.T, n int) *pages.Store {
	t.Helper()
	s, err := pages.New(n)
	if err != nil || s == nil {
		t.Fatalf("New of %d: %v, %v", n, s, err)
	}
	return s
}

// short is a text that is not too long to be told.
func short(text string) string {
	if len(text) <= 40 {
		return text
	}
	return fmt.Sprint(text[:20], "..", text[len(text)-10:], " of ", len(text))
}

// laidText is a text as layer 1's chapter lays bytes, written out here so that no page is held against the package that made it.
func laidText(text string) string {
	return strings.ReplaceAll(text, "\x00", "\x00\xff") + "\x00\x00"
}

// laidNumber is a number below 65,536 as layer 1's chapter lays it.
func laidNumber(n int) string {
	switch {
	case n == 0:
		return "\x00"
	case n < 256:
		return string([]byte{1, byte(n)})
	}
	return string([]byte{2, byte(n >> 8), byte(n)})
}

// laidRoot is a root page of places, in the order in which they are told.
func laidRoot(places ...int) string {
	text := laidNumber(len(places))
	for _, place := range places {
		text += laidNumber(place)
	}
	return text
}

// laidLeaf is a leaf.
func laidLeaf(key, value string) string { return laidText(key) + laidText(value) }

// put is a change that gives a key a value.
func put(key, value string) shelf.Change { return shelf.Change{Key: key, Value: value} }

// gone is a change that takes a key away.
func gone(key string) shelf.Change { return shelf.Change{Key: key, Gone: true} }

// pair is a key, its value, and the place of its leaf.
type pair struct {
	key, value string
	place      int
}

// step is a Write to a page of the area, or a Sync.
type step struct {
	sync  bool
	place int
	text  string
}

// plain is a shelf as lists, and what its area's pages hold: what a Shelf is held against.
type plain struct {
	count int
	pairs []pair
	pages []string
}

// at is where a key stands; -1: nowhere.
func (p *plain) at(key string) int {
	return slices.IndexFunc(p.pairs, func(q pair) bool { return q.key == key })
}

// idle tells whether a change changes nothing.
func (p *plain) idle(c shelf.Change) bool {
	at := p.at(c.Key)
	if c.Gone {
		return at < 0
	}
	return at >= 0 && p.pairs[at].value == c.Value
}

// todo is what changes, by rising keys.
func (p *plain) todo(l []shelf.Change) []shelf.Change {
	var todo []shelf.Change
	for i, c := range l {
		again := slices.ContainsFunc(l[i+1:], func(d shelf.Change) bool { return d.Key == c.Key })
		if !again && !p.idle(c) {
			todo = append(todo, c)
		}
	}
	slices.SortFunc(todo, func(a, b shelf.Change) int { return strings.Compare(a.Key, b.Key) })
	return todo
}

// plan is the error that a Set answers by itself, the steps that it takes, and the pairs that are there behind them.
func (p *plain) plan(l []shelf.Change) (api.Errno, []step, []pair) {
	todo := p.todo(l)
	behind := slices.DeleteFunc(slices.Clone(p.pairs), func(q pair) bool {
		return slices.ContainsFunc(todo, func(c shelf.Change) bool { return c.Key == q.key })
	})
	var steps []step
	place, long := 0, false
	for _, c := range todo {
		if c.Gone {
			continue
		}
		for place++; slices.ContainsFunc(p.pairs, func(q pair) bool { return q.place == place }); place++ {
		}
		text := laidLeaf(c.Key, c.Value)
		long = long || len(text) > api.PageSize
		steps = append(steps, step{place: place, text: text})
		behind = append(behind, pair{c.Key, c.Value, place})
	}
	switch {
	case long:
		return api.ErrLong, nil, p.pairs
	case place >= p.count:
		return api.ErrFull, nil, p.pairs
	case len(todo) == 0:
		return 0, nil, p.pairs
	}
	if len(steps) > 0 {
		steps = append(steps, step{sync: true})
	}
	return 0, append(steps, step{text: rootOf(behind)}, step{sync: true}), behind
}

// rootOf is the root page of some pairs.
func rootOf(pairs []pair) string {
	var places []int
	for _, q := range pairs {
		places = append(places, q.place)
	}
	slices.Sort(places)
	return laidRoot(places...)
}

// cut is what the pages hold where a store crashes within step k of some, and those of the loose writes are kept that a set of bits tells; how many writes were loose; and whether the root page was kept.
func (p *plain) cut(steps []step, k, keep int) ([]string, int, bool) {
	held := slices.Clone(p.pages)
	var loose []step
	for i, s := range steps[:k+1] {
		switch {
		case !s.sync:
			loose = append(loose, s)
		case i < k:
			for _, w := range loose {
				held[w.place] = w.text
			}
			loose = nil
		}
	}
	root := false
	for n, w := range loose {
		if keep>>n&1 == 1 {
			held[w.place], root = w.text, w.place == 0
		}
	}
	return held, len(loose), root
}

// do is the plain shelf behind all steps of a Set.
func (p *plain) do(steps []step, behind []pair) {
	for _, s := range steps {
		if !s.sync {
			p.pages[s.place] = s.text
		}
	}
	p.pairs = behind
}

// site is a shelf beside the plain one.
type site struct {
	t     *testing.T
	store *pages.Store
	area  shelf.Area
	shelf *shelf.Shelf
	plain plain
}

// newSite is a shelf of a new area of so many pages, with pages ahead of it and behind it that are not its own.
func newSite(t *testing.T, count int) *site {
	t.Helper()
	return newSiteOn(t, newStore(t, count+5), shelf.Area{From: 3, Count: count})
}

// newSiteOn is a shelf of an area to which nothing was written.
func newSiteOn(t *testing.T, p *pages.Store, a shelf.Area) *site {
	t.Helper()
	s := &site{t: t, store: p, area: a, plain: plain{count: a.Count, pages: make([]string, a.Count)}}
	s.open("a new area")
	return s
}

// open opens the area anew.
func (s *site) open(what string) {
	s.t.Helper()
	opened, err := shelf.Open(s.store, s.area)
	if err != nil || opened == nil {
		s.t.Fatalf("%s: Open: %v, %v", what, opened, err)
	}
	s.shelf = opened
	s.check(what + ", opened")
}

// check holds the shelf against the plain one, and the pages, where they can be read.
func (s *site) check(what string) {
	s.t.Helper()
	wantPairs(s.t, what, s.shelf, s.area.Count, s.plain.pairs)
	if !s.store.Down() {
		s.wantPages(what, s.plain.pages)
	}
}

// wantPages holds the area's pages against texts.
func (s *site) wantPages(what string, want []string) {
	s.t.Helper()
	for place, text := range want {
		if b, err := s.store.Read(s.area.From + place); string(b) != text || err != nil {
			s.t.Errorf("%s: page %d is %q, %v, want %q", what, place, short(string(b)), err, short(text))
		}
	}
}

// wantPairs holds what a shelf tells against pairs.
func wantPairs(t *testing.T, what string, s *shelf.Shelf, count int, pairs []pair) {
	t.Helper()
	var keys []string
	for _, q := range pairs {
		keys = append(keys, q.key)
		if value, ok := s.Get(q.key); !ok || value != q.value {
			t.Errorf("%s: %q is %q, %v, want %q", what, short(q.key), short(value), ok, short(q.value))
		}
		for _, other := range []string{q.key + "\x00", q.key + " ", q.key + "nobody's", strings.TrimSuffix(q.key, "a")} {
			known := slices.ContainsFunc(pairs, func(q pair) bool { return q.key == other })
			if value, ok := s.Get(other); ok != known || !ok && value != "" {
				t.Errorf("%s: %q is %q, %v", what, short(other), short(value), ok)
			}
		}
	}
	slices.Sort(keys)
	if got := s.Keys(); !slices.Equal(got, keys) {
		t.Errorf("%s: the keys are %q, want %q", what, got, keys)
	}
	if got := s.Free(); got != count-1-len(pairs) {
		t.Errorf("%s: %d are free, want %d", what, got, count-1-len(pairs))
	}
}

// plenty is more steps than a Set takes.
const plenty = 1100

// counted is how many steps something takes, none of which crashes, and all of which are made safe within.
func (s *site) counted(what string, do func()) int {
	s.t.Helper()
	wantErr(s.t, what, s.store.Arm(plenty), 0)
	do()
	if n := s.store.Loose(); n != 0 {
		s.t.Errorf("%s: %d writes are loose", what, n)
	}
	left := 0
	for s.store.Sync() == nil {
		left++
	}
	s.store.Start(nil)
	return plenty - left
}

// set does changes, holds the error against what is asked for, and all else against the plain shelf.
func (s *site) set(what string, want api.Errno, l ...shelf.Change) {
	s.t.Helper()
	no, steps, behind := s.plain.plan(l)
	if no != want {
		s.t.Fatalf("%s: the plain shelf answers %d, want %d", what, no, want)
	}
	n := s.counted(what, func() { wantErr(s.t, what, s.shelf.Set(l), want) })
	if n != len(steps) {
		s.t.Errorf("%s: Set took %d steps, want %d", what, n, len(steps))
	}
	s.plain.do(steps, behind)
	s.check(what)
}

// page holds a page of the area against a text, as it stands in the chapter rather than as the plain shelf has it.
func (s *site) page(what string, place int, want string) {
	s.t.Helper()
	if b, err := s.store.Read(s.area.From + place); string(b) != want || err != nil {
		s.t.Errorf("%s: page %d is %q, %v, want %q", what, place, short(string(b)), err, short(want))
	}
}

// TestExample: SH2, the example of the chapter.
func TestExample(t *testing.T) {
	s := newSite(t, 4)
	s.set("a and b", 0, put("a", "1"), put("b", ""))
	if n := s.shelf.Free(); n != 1 {
		t.Errorf("%d are free, want 1", n)
	}
	s.set("both anew", api.ErrFull, put("a", ""), put("b", "2"))
	if value, ok := s.shelf.Get("a"); value != "1" || !ok {
		t.Errorf("a is %q, %v", value, ok)
	}
}

// TestPages: SH2, the pages of some Sets, byte by byte: leaves by rising keys on the lowest free places; the root page with these, and without those that changed; leaves that no place tells any more stay.
func TestPages(t *testing.T) {
	s := newSite(t, 5)
	s.page("new", 0, "")
	s.set("c and a", 0, put("c", "3"), put("a", "\x001"))
	s.page("c and a", 0, "\x01\x02\x01\x01\x01\x02")
	s.page("c and a", 1, "a\x00\x00\x00\xff1\x00\x00")
	s.page("c and a", 2, "c\x00\x003\x00\x00")
	s.page("c and a", 3, "")
	s.set("b, and a anew", 0, put("b", ""), put("a", "x"))
	s.page("b, and a anew", 0, "\x01\x03\x01\x02\x01\x03\x01\x04")
	s.page("b, and a anew", 1, "a\x00\x00\x00\xff1\x00\x00")
	s.page("b, and a anew", 2, "c\x00\x003\x00\x00")
	s.page("b, and a anew", 3, "a\x00\x00x\x00\x00")
	s.page("b, and a anew", 4, "b\x00\x00\x00\x00")
	s.set("a and b go, c anew", 0, gone("a"), put("c", "C"), gone("b"))
	s.page("a and b go, c anew", 0, "\x01\x01\x01\x01")
	s.page("a and b go, c anew", 1, "c\x00\x00C\x00\x00")
	s.page("a and b go, c anew", 2, "c\x00\x003\x00\x00")
	s.set("c goes", 0, gone("c"))
	s.page("c goes", 0, "\x00")
	s.page("c goes", 1, "c\x00\x00C\x00\x00")
	s.open("all gone")
}

// TestOpenBounds: SH1, areas of too few and too many pages, below 0, at the store's last page and beyond it; and a nil store, with any area.
func TestOpenBounds(t *testing.T) {
	for _, n := range []int{1, 2, 3, 10, 1023, 1024, 1025, 1026, 2048, api.MaxList} {
		p := newStore(t, n)
		for _, count := range []int{math.MinInt, -1024, -2, -1, 0, 1, 2, 3, 9, 1022, 1023, 1024, 1025, 1026, 2048, api.MaxList, 1 << 32, 1<<32 + 2, math.MaxInt} {
			for _, from := range []int{math.MinInt, math.MinInt + 2, -1024, -2, -1, 0, 1, 2, n - count - 1, n - count, n - count + 1, n - 3, n - 2, n - 1, n, n + 1, 1 << 32, math.MaxInt - 1, math.MaxInt} {
				a := shelf.Area{From: from, Count: count}
				what := fmt.Sprint(a, " of ", n)
				var want api.Errno = api.ErrArg
				if count >= 2 && count <= 1024 && from >= 0 && from < n && from+count <= n {
					want = 0
				}
				s, err := shelf.Open(p, a)
				wantErr(t, what, err, want)
				if (s == nil) != (want != 0) {
					t.Errorf("%s: %v beside %v", what, s, err)
				}
				if want == 0 {
					wantPairs(t, what, s, count, nil)
				}
				s, err = shelf.Open(nil, a)
				wantErr(t, "a nil store: "+what, err, api.ErrArg)
				if s != nil {
					t.Errorf("a nil store: %s: %v beside the error", what, s)
				}
			}
		}
	}
}

// TestOpenCounts: SH1 and SH2, areas of the fewest and the most pages, and one beyond each, told one by one: all their places can be filled, the last page too.
func TestOpenCounts(t *testing.T) {
	for count, want := range map[int]api.Errno{1: api.ErrArg, 2: 0, 1024: 0, 1025: api.ErrArg} {
		p := newStore(t, 1025)
		from := 1025 - count
		_, err := shelf.Open(p, shelf.Area{From: from, Count: count})
		wantErr(t, fmt.Sprint(count, " pages"), err, want)
		if want != 0 {
			continue
		}
		s := newSiteOn(t, p, shelf.Area{From: from, Count: count})
		var l []shelf.Change
		for i := range count - 1 {
			l = append(l, put(fmt.Sprint("key ", i), fmt.Sprint(i)))
		}
		s.set("too many", api.ErrFull, append(slices.Clone(l), put("one more", ""))...)
		s.set("all", 0, l...)
		s.open("all")
		s.set("one more", api.ErrFull, put("one more", ""))
		if n := s.shelf.Free(); n != 0 {
			t.Errorf("%d pages: %d are free", count, n)
		}
	}
}

// TestOpenDown: SH1, a store that has crashed answers ErrDown, whatever its pages hold, but for an area that can't be; begun again it opens.
func TestOpenDown(t *testing.T) {
	for _, root := range []string{"", laidRoot(1), laidRoot(2, 1), "x"} {
		p := newStore(t, 4)
		wantErr(t, root, p.Write(0, []byte(root)), 0)
		wantErr(t, root, p.Write(1, []byte(laidLeaf("a", "1"))), 0)
		wantErr(t, root, p.Sync(), 0)
		wantErr(t, root, p.Arm(0), 0)
		wantErr(t, root, p.Sync(), api.ErrDown)
		for range 2 {
			s, err := shelf.Open(p, shelf.Area{Count: 4})
			wantErr(t, fmt.Sprintf("crashed, %q", root), err, api.ErrDown)
			if s != nil {
				t.Errorf("%v beside the error", s)
			}
			for _, a := range []shelf.Area{{}, {0, 1}, {-1, 2}, {0, 5}, {3, 2}, {0, 1025}} {
				_, err = shelf.Open(p, a)
				wantErr(t, fmt.Sprint("crashed, ", a), err, api.ErrArg)
			}
		}
		p.Start(nil)
		s, err := shelf.Open(p, shelf.Area{Count: 4})
		switch root {
		case "":
			wantErr(t, "begun again", err, 0)
			wantPairs(t, "begun again", s, 4, nil)
		case laidRoot(1):
			wantErr(t, "begun again", err, 0)
			wantPairs(t, "begun again", s, 4, []pair{{"a", "1", 1}})
		default:
			wantErr(t, "begun again", err, api.ErrHalt)
		}
	}
}

// openPages opens an area whose pages hold texts, in a store with leaves beside them, which would be let by if somebody took them for its own.
func openPages(t *testing.T, what string, texts ...string) (*shelf.Shelf, error) {
	t.Helper()
	p := newStore(t, len(texts)+3)
	for _, page := range []int{0, 1, len(texts) + 2} {
		wantErr(t, what, p.Write(page, []byte(laidLeaf(fmt.Sprint("beside ", page), ""))), 0)
	}
	for i, text := range texts {
		wantErr(t, what, p.Write(i+2, []byte(text)), 0)
	}
	s, err := shelf.Open(p, shelf.Area{From: 2, Count: len(texts)})
	if (s == nil) != (err != nil) {
		t.Errorf("%s: %v beside %v", what, s, err)
	}
	return s, err
}

// wantRoot opens an area of 4 pages with a root page, and a leaf at each place, and holds the places that it finds against those that are asked for.
func wantRoot(t *testing.T, root string, want api.Errno, places ...int) {
	t.Helper()
	what := fmt.Sprintf("root %q", short(root))
	s, err := openPages(t, what, root, laidLeaf("k1", "1"), laidLeaf("k2", "2"), laidLeaf("k3", "3"))
	wantErr(t, what, err, want)
	if err != nil {
		return
	}
	var pairs []pair
	for _, place := range places {
		pairs = append(pairs, pair{fmt.Sprint("k", place), fmt.Sprint(place), place})
	}
	wantPairs(t, what, s, 4, pairs)
}

// TestOpenRoot: SH1, root pages: empty, of no place, of some, not rising, with a place of 0, of Count - 1 and of Count, cut short, and with bytes behind them.
func TestOpenRoot(t *testing.T) {
	wantRoot(t, "", 0)
	wantRoot(t, "\x00", 0)
	wantRoot(t, "\x01\x01\x01\x01", 0, 1)
	wantRoot(t, "\x01\x01\x01\x03", 0, 3)
	wantRoot(t, "\x01\x02\x01\x01\x01\x03", 0, 1, 3)
	wantRoot(t, "\x01\x03\x01\x01\x01\x02\x01\x03", 0, 1, 2, 3)
	for _, places := range [][]int{{0}, {4}, {5}, {256}, {65535}, {0, 1}, {1, 0}, {0, 0}, {1, 1}, {2, 1}, {3, 2}, {1, 3, 2}, {1, 2, 2}, {2, 2, 3}, {3, 2, 1}, {1, 2, 4}, {0, 1, 2}, {1, 2, 3, 3}, {0, 1, 2, 3}, {1, 2, 3, 4}} {
		wantRoot(t, laidRoot(places...), api.ErrHalt)
	}
	for _, places := range [][]int{{}, {1}, {3}, {1, 2}, {1, 2, 3}} {
		whole := laidRoot(places...)
		for n := 1; n < len(whole); n++ {
			wantRoot(t, whole[:n], api.ErrHalt)
		}
		for _, more := range []string{"\x00", "\x01\x03", "\x01", "x", "\xff", whole, strings.Repeat("\x00", api.PageSize-len(whole))} {
			wantRoot(t, whole+more, api.ErrHalt)
		}
	}
	for _, root := range []string{
		"\x01\x00",                         // 0, with a needless nought
		"\x02\x00\x01\x01\x01",             // 1, with a needless nought
		"\x01\x01\x02\x00\x01",             // a place with a needless nought
		"\x09\x01\x01",                     // a number of 9 bytes
		"\xff", "\x01\x01\xff", "no root.", // none at all
		"\x08\xff\xff\xff\xff\xff\xff\xff\xff", // more places than can be told
		"\x08\x80\x00\x00\x00\x00\x00\x00\x00",
		"\x05\x01\x00\x00\x00\x01\x01\x01",                     // 2^32 + 1 of them
		"\x01\x01\x05\x01\x00\x00\x00\x01",                     // a place of 2^32 + 1
		"\x01\x01\x08\xff\xff\xff\xff\xff\xff\xff\xff",         // a place of 2^64 - 1
		"\x01\x02\x01\x01\x08\x80\x00\x00\x00\x00\x00\x00\x02", // a place of 2^63 + 2
	} {
		wantRoot(t, root, api.ErrHalt)
	}
}

// words are all texts of some bytes, up to so many.
func words(letters string, n int) []string {
	all := []string{""}
	for from := 0; n > 0; n-- {
		to := len(all)
		for _, word := range all[from:to] {
			for i := range len(letters) {
				all = append(all, word+letters[i:i+1])
			}
		}
		from = to
	}
	return all
}

// TestOpenRootAll: SH1, of all short pages of some bytes those are roots that places which rise are laid as, and no others.
func TestOpenRootAll(t *testing.T) {
	roots := map[string][]int{"": nil}
	for set := range 8 {
		var places []int
		for place := 1; place <= 3; place++ {
			if set>>(place-1)&1 == 1 {
				places = append(places, place)
			}
		}
		roots[laidRoot(places...)] = places
	}
	for _, root := range words("\x00\x01\x02\x03\x04", 6) {
		if places, ok := roots[root]; ok {
			wantRoot(t, root, 0, places...)
			continue
		}
		wantRoot(t, root, api.ErrHalt)
	}
}

// TestOpenRootLong: SH1, places of two bytes, the last one of the longest area among them, and all of them.
func TestOpenRootLong(t *testing.T) {
	leaves := make([]string, 1024)
	var all []int
	for place := 1; place < 1024; place++ {
		leaves[place] = laidLeaf(fmt.Sprint("k", place), "")
		all = append(all, place)
	}
	for _, l := range []struct {
		places []int
		want   api.Errno
	}{
		{[]int{255, 256, 1023}, 0}, {[]int{1023}, 0}, {all, 0}, {all[1:], 0},
		{[]int{1024}, api.ErrHalt}, {[]int{255, 256, 1024}, api.ErrHalt}, {[]int{256, 255}, api.ErrHalt}, {[]int{1023, 1023}, api.ErrHalt},
		{append([]int{0}, all...), api.ErrHalt}, {append(slices.Clone(all), 1024), api.ErrHalt}, {append(slices.Clone(all), 1023), api.ErrHalt},
	} {
		leaves[0] = laidRoot(l.places...)
		what := fmt.Sprint(len(l.places), " places up to ", l.places[len(l.places)-1])
		s, err := openPages(t, what, leaves...)
		wantErr(t, what, err, l.want)
		if err == nil && (len(s.Keys()) != len(l.places) || s.Free() != 1023-len(l.places)) {
			t.Errorf("%s: %d keys, %d are free", what, len(s.Keys()), s.Free())
		}
	}
}

// wantLeaf opens an area with one leaf, which may be none.
func wantLeaf(t *testing.T, text string, want api.Errno, key, value string) {
	t.Helper()
	what := fmt.Sprintf("leaf %q", short(text))
	for place := 1; place <= 3; place++ {
		texts := []string{laidRoot(place), "x", "x", "x"}
		texts[place] = text
		s, err := openPages(t, what, texts...)
		wantErr(t, what, err, want)
		if err == nil {
			wantPairs(t, what, s, 4, []pair{{key, value, place}})
		}
	}
}

// TestOpenLeaf: SH1, leaves: empty ones, cut short, with bytes behind them, and as long as a page; those that the root does not tell are passed over.
func TestOpenLeaf(t *testing.T) {
	long := strings.Repeat("l", api.PageSize-4)
	for _, q := range []pair{{"", "", 0}, {"a", "", 0}, {"", "1", 0}, {"a", "1", 0}, {"\x00", "\x00\x00", 0}, {"\xff\x00", "\x00\xff", 0}, {long, "", 0}, {"", long, 0}, {long[:2000], long[2000:], 0}, {strings.Repeat("\x00", 2046), "", 0}, {"", strings.Repeat("\x00", 2046), 0}} {
		whole := laidLeaf(q.key, q.value)
		wantLeaf(t, whole, 0, q.key, q.value)
		for n := range len(whole) {
			if n < 40 || len(whole)-n < 10 {
				wantLeaf(t, whole[:n], api.ErrHalt, "", "")
			}
		}
		for _, more := range []string{"\x00", "\xff", "x", "\x00\x00", laidText("more"), whole} {
			if len(whole+more) <= api.PageSize {
				wantLeaf(t, whole+more, api.ErrHalt, "", "")
			}
		}
	}
	for _, text := range []string{"", "x", "\x00", "\x00\x00", "a\x00\x001", "a\x00\x001\x00", "a\x00x\x00\x001\x00\x00", "a\x00\x001\x00x\x00\x00", strings.Repeat("x", api.PageSize), "a\x00\x00" + strings.Repeat("x", api.PageSize-3), strings.Repeat("\x00\xff", api.PageSize/2), strings.Repeat("\x00", api.PageSize)} {
		wantLeaf(t, text, api.ErrHalt, "", "")
	}
}

// TestOpenLeafAll: SH1, of all short pages of some bytes those are leaves that a key and a value are laid as, and no others.
func TestOpenLeafAll(t *testing.T) {
	leaves := map[string]pair{}
	few := words("\x00\xffa", 4)
	for _, key := range few {
		for _, value := range few {
			leaves[laidLeaf(key, value)] = pair{key: key, value: value}
		}
	}
	n := 0
	for _, text := range words("\x00\xffa", 7) {
		if q, ok := leaves[text]; ok {
			wantLeaf(t, text, 0, q.key, q.value)
			n++
			continue
		}
		wantLeaf(t, text, api.ErrHalt, "", "")
	}
	if n == 0 {
		t.Error("no page was a leaf")
	}
}

// TestOpenTooLong: SH1, a key or a value of more than PageSize bytes has no page to lie on: its leaf, cut to a page, is none.
func TestOpenTooLong(t *testing.T) {
	for _, n := range []int{api.PageSize - 3, api.PageSize, api.PageSize + 1} {
		long := strings.Repeat("l", n)
		for _, text := range []string{laidLeaf(long, ""), laidLeaf("", long), laidLeaf(long, long)} {
			wantLeaf(t, text[:api.PageSize], api.ErrHalt, "", "")
		}
	}
}

// TestOpenTwice: SH1, two leaves of one key, of one value or two, wherever they stand, are none; two of one value are let by.
func TestOpenTwice(t *testing.T) {
	a, b, A := laidLeaf("a", "1"), laidLeaf("b", "1"), laidLeaf("a", "2")
	for _, l := range []struct {
		places []int
		leaves []string
		want   api.Errno
	}{
		{[]int{1, 2}, []string{a, a, b}, api.ErrHalt},
		{[]int{1, 2}, []string{a, A, b}, api.ErrHalt},
		{[]int{1, 2, 3}, []string{a, b, A}, api.ErrHalt},
		{[]int{1, 2, 3}, []string{b, a, A}, api.ErrHalt},
		{[]int{1, 2, 3}, []string{a, a, a}, api.ErrHalt},
		{[]int{1, 2, 3}, []string{laidLeaf("", ""), a, laidLeaf("", "")}, api.ErrHalt},
		{[]int{1, 3}, []string{a, A, b}, 0},
		{[]int{2, 3}, []string{a, A, b}, 0},
		{[]int{1, 2, 3}, []string{a, b, laidLeaf("", "1")}, 0},
		{[]int{1, 2, 3}, []string{a, laidLeaf("1", "a"), laidLeaf("a\x00", "1")}, 0},
	} {
		what := fmt.Sprintf("places %v of %q", l.places, l.leaves)
		s, err := openPages(t, what, append([]string{laidRoot(l.places...)}, l.leaves...)...)
		wantErr(t, what, err, l.want)
		if err == nil && len(s.Keys()) != len(l.places) {
			t.Errorf("%s: the keys are %q", what, s.Keys())
		}
	}
}

// TestOpenWritesNothing: SH1, Open takes no step, and leaves the pages as they are.
func TestOpenWritesNothing(t *testing.T) {
	s := newSite(t, 4)
	for _, l := range [][]shelf.Change{nil, {put("a", "1")}, {put("b", "2"), gone("a")}} {
		s.set("ahead", 0, l...)
		if n := s.counted("Open", func() { s.open("Open") }); n != 0 {
			t.Errorf("Open took %d steps", n)
		}
	}
}

// TestSetNothing: SH2, nothing is written if nothing changes: no changes, keys that go and are not there, values that are there, and ones that are told later.
func TestSetNothing(t *testing.T) {
	s := newSite(t, 4)
	for _, opened := range []string{"new", "set", "all gone"} {
		switch opened {
		case "set":
			s.set("set", 0, put("a", "1"), put("", ""))
		case "all gone":
			s.set("all gone", 0, gone("a"), gone(""))
		}
		root := s.plain.pages[0]
		long := strings.Repeat("l", api.PageSize+1)
		for _, l := range [][]shelf.Change{
			nil, {}, {gone("b")}, {gone("b"), gone("c"), gone("b")}, {{Key: "b", Value: "2", Gone: true}},
			{put("b", "2"), gone("b")}, {put("b", long), gone("b")}, {gone(long)}, {put(long, ""), gone(long)},
		} {
			s.set(opened, 0, l...)
		}
		if opened == "set" {
			for _, l := range [][]shelf.Change{
				{put("a", "1")}, {put("", "")}, {put("a", "1"), put("", ""), put("a", "1")}, {put("a", "2"), put("a", "1")}, {gone("a"), put("a", "1")},
				{gone(""), gone("b"), put("", "")}, {put("a", long), put("a", "1")}, {put("a", "2"), put("b", "3"), gone("b"), gone("a"), put("a", "1")},
			} {
				s.set(opened, 0, l...)
			}
		}
		s.page(opened, 0, root)
	}
}

// TestSetLast: SH2, of some changes of one key the last one counts, and one key takes one place.
func TestSetLast(t *testing.T) {
	long := strings.Repeat("l", api.PageSize)
	s := newSite(t, 3)
	s.set("last", 0, put("a", "1"), put("a", "2"), put("b", "x"), put("a", "3"), put("b", "y"))
	s.set("last of too many", 0, gone("b"), put("a", "4"), gone("a"))
	s.set("gone and there again", 0, gone("a"), put("a", "5"), put("b", "6"), gone("b"), put("b", "7"))
	s.set("anew", 0, gone("b"), put("a", "5"))
	s.set("too long, and then not", 0, put("a", long), put("a", "8"))
	s.set("not, and then too long", api.ErrLong, put("a", "9"), put("a", long))
	s.set("gone at last", 0, put("a", long), shelf.Change{Key: "a", Value: long, Gone: true})
	var many []shelf.Change
	for i := range 20000 {
		many = append(many, put("many", fmt.Sprint(i)))
	}
	wantErr(t, "many", s.shelf.Set(many), 0)
	if value, ok := s.shelf.Get("many"); value != "19999" || !ok || s.shelf.Free() != 1 {
		t.Errorf("many: %q, %v, %d are free", value, ok, s.shelf.Free())
	}
}

// lists are all lists of at most n changes of two keys.
func lists(n int) [][]shelf.Change {
	var all []shelf.Change
	for _, key := range []string{"a", "b"} {
		all = append(all, put(key, "1"), put(key, ""), gone(key), shelf.Change{Key: key, Value: "1", Gone: true})
	}
	out := [][]shelf.Change{nil}
	for from := 0; n > 0; n-- {
		to := len(out)
		for _, l := range out[from:to] {
			for _, c := range all {
				out = append(out, append(slices.Clip(l), c))
			}
		}
		from = to
	}
	return out
}

// TestSetAll: SH2, all lists of at most three changes of two keys, on shelves that hold none of these, one or both, with room for all of them or not.
func TestSetAll(t *testing.T) {
	for _, ahead := range [][]shelf.Change{nil, {put("a", "1")}, {put("b", "")}, {put("a", ""), put("b", "1")}} {
		for count := max(2, len(ahead)+1); count <= 5; count++ {
			for _, l := range lists(3) {
				what := fmt.Sprintf("%d pages, %v, Set of %v", count, ahead, l)
				s := newSite(t, count)
				wantErr(t, what, s.shelf.Set(ahead), 0)
				_, steps, behind := s.plain.plan(ahead)
				s.plain.do(steps, behind)
				no, _, _ := s.plain.plan(l)
				s.set(what, no, l...)
				s.open(what)
			}
		}
	}
}

// TestSetOrderOfList: SH2 and rule 4, in whatever order unlike keys are told, the pages are the same.
func TestSetOrderOfList(t *testing.T) {
	l := []shelf.Change{put("c", "3"), gone("b"), put("a", "1"), put("\xff", ""), put("", "0")}
	var swap func(n int)
	swap = func(n int) {
		if n == len(l) {
			s := newSite(t, 8)
			s.set("ahead", 0, put("b", "2"), put("c", "2"))
			s.set(fmt.Sprint(l), 0, l...)
			s.page(fmt.Sprint(l), 0, laidRoot(3, 4, 5, 6))
			for place, text := range map[int]string{3: laidLeaf("", "0"), 4: laidLeaf("a", "1"), 5: laidLeaf("c", "3"), 6: laidLeaf("\xff", "")} {
				s.page(fmt.Sprint(l), place, text)
			}
		}
		for i := n; i < len(l); i++ {
			l[n], l[i] = l[i], l[n]
			swap(n + 1)
			l[n], l[i] = l[i], l[n]
		}
	}
	swap(0)
}

// TestSetLength: SH2, a leaf of PageSize bytes lies on a page, and one of one more does not, whichever of key and value is long, and whether its bytes stand for themselves.
func TestSetLength(t *testing.T) {
	text := strings.Repeat("t", 2*api.PageSize)
	noughts := strings.Repeat("\x00", api.PageSize)
	for _, q := range []pair{
		{text[:api.PageSize-4], "", 0}, {"", text[:api.PageSize-4], 0}, {text[:1000], text[1000 : api.PageSize-4], 0},
		{noughts[:2046], "", 0}, {"", noughts[:2046], 0}, {"k", noughts[:2045] + "v", 0}, {noughts[:1000], noughts[1000:2046], 0},
	} {
		if n := len(laidLeaf(q.key, q.value)); n != api.PageSize {
			t.Fatalf("a leaf of %d bytes", n)
		}
		s := newSite(t, 4)
		what := fmt.Sprintf("%q and %q", short(q.key), short(q.value))
		s.set(what+", a longer key", api.ErrLong, put(q.key+"+", q.value))
		s.set(what+", a longer value", api.ErrLong, put(q.key, q.value+"+"))
		s.set(what+", a nought more", api.ErrLong, put(q.key, q.value+"\x00"))
		s.set(what, 0, put(q.key, q.value))
		s.open(what)
		s.set(what+", a longer value", api.ErrLong, put(q.key, q.value+"+"))
		s.set(what+" among others", api.ErrLong, put("a", "1"), put(q.key, q.value+"+"), put("z", "1"), gone("b"))
		s.set(what+" goes", 0, gone(q.key))
	}
	s := newSite(t, 4)
	for _, n := range []int{api.PageSize - 3, api.PageSize - 1, api.PageSize, api.PageSize + 1, 2 * api.PageSize, api.MaxBytes, 1 << 24} {
		long := strings.Repeat("l", n)
		s.set(fmt.Sprint("a key of ", n), api.ErrLong, put(long, ""))
		s.set(fmt.Sprint("a value of ", n), api.ErrLong, put("", long))
	}
}

// TestSetFull: SH2, as many keys that get another value as there are free places, and one more: what goes in the same Set makes no room, and what stays needs none.
func TestSetFull(t *testing.T) {
	for free := range 5 {
		s := newSite(t, 4+free)
		s.set("ahead", 0, put("a", "1"), put("b", "2"), put("c", "3"))
		var l []shelf.Change
		for i := range free {
			l = append(l, put(fmt.Sprint("x", i), ""))
		}
		what := fmt.Sprint(free, " free")
		s.set(what+", one more", api.ErrFull, append(slices.Clip(l), put("y", ""))...)
		s.set(what+", one more, and some go", api.ErrFull, append(slices.Clip(l), gone("a"), put("y", ""), gone("b"))...)
		s.set(what+", one more, anew", api.ErrFull, append(slices.Clip(l), put("c", "4"))...)
		s.set(what+", some stay and some go", 0, append(slices.Clip(l), put("a", "1"), gone("b"), gone("nobody"), put("c", "3"))...)
		s.set(what+", one is free", 0, put("c", "5"))
		s.set(what+", two, of which one is free", api.ErrFull, put("c", "6"), put("a", "6"))
		s.set(what+", one goes", 0, gone("a"))
		s.set(what+", two are free", 0, put("c", "6"), put("d", "6"))
		s.open(what)
	}
}

// TestSetSteps: SH2, how many steps a Set takes: a Write of each leaf and a Sync, if there was one, and a Write of the root and a Sync.
func TestSetSteps(t *testing.T) {
	for _, l := range []struct {
		what string
		want int
		todo []shelf.Change
		no   api.Errno
	}{
		{"none", 0, nil, 0},
		{"none that changes", 0, []shelf.Change{put("a", "1"), gone("x")}, 0},
		{"one", 4, []shelf.Change{put("c", "3")}, 0},
		{"one anew", 4, []shelf.Change{put("a", "3")}, 0},
		{"three", 6, []shelf.Change{put("c", "3"), put("a", "3"), put("d", "3")}, 0},
		{"one goes", 2, []shelf.Change{gone("a")}, 0},
		{"two go", 2, []shelf.Change{gone("a"), gone("b"), gone("a")}, 0},
		{"one goes, one anew", 4, []shelf.Change{gone("a"), put("b", "3")}, 0},
		{"some of one key", 4, []shelf.Change{put("c", "1"), put("c", "2"), gone("c"), put("c", "3")}, 0},
		{"too many", 0, []shelf.Change{put("c", "3"), put("d", "3"), put("e", "3"), put("f", "3"), gone("a")}, api.ErrFull},
		{"too long", 0, []shelf.Change{put("c", "3"), put("d", strings.Repeat("l", api.PageSize)), gone("a")}, api.ErrLong},
	} {
		s := newSite(t, 6)
		s.set(l.what, 0, put("a", "1"), put("b", "2"))
		n := s.counted(l.what, func() { wantErr(t, l.what, s.shelf.Set(l.todo), l.no) })
		if n != l.want {
			t.Errorf("%s: %d steps, want %d", l.what, n, l.want)
		}
	}
}

// TestErrorsOrder: SH2, of some errors the one that the rule names first: that of an earlier Set, ErrLong, ErrFull, no error where nothing changes, ErrDown. What the store is not asked for does not kill the shelf.
func TestErrorsOrder(t *testing.T) {
	long := put("l", strings.Repeat("l", api.PageSize))
	most := []shelf.Change{put("c", ""), put("d", ""), put("e", "")}
	for _, down := range []bool{false, true} {
		s := newSite(t, 5)
		s.set("ahead", 0, put("a", "1"), put("b", "2"))
		if down {
			wantErr(t, "Arm", s.store.Arm(0), 0)
			wantErr(t, "crash", s.store.Sync(), api.ErrDown)
		}
		for range 2 {
			for _, l := range []struct {
				what string
				want api.Errno
				todo []shelf.Change
			}{
				{"too long", api.ErrLong, []shelf.Change{long}},
				{"too long, among others", api.ErrLong, []shelf.Change{put("a", "1"), put("x", "1"), long, gone("b")}},
				{"too long and too many", api.ErrLong, append(slices.Clone(most), long)},
				{"too many and too long", api.ErrLong, append([]shelf.Change{long}, most...)},
				{"too many", api.ErrFull, most},
				{"too many, too long ones told ahead", api.ErrFull, append([]shelf.Change{long, {Key: "a", Value: long.Value}}, append(slices.Clone(most), gone("l"), put("a", "1"))...)},
				{"nothing", 0, nil},
				{"nothing changes", 0, []shelf.Change{put("a", "1"), gone("x"), long, gone("l")}},
			} {
				what := fmt.Sprint("down ", down, ": ", l.what)
				wantErr(t, what, s.shelf.Set(l.todo), l.want)
				s.check(what)
				if s.store.Loose() != 0 {
					t.Errorf("%s: %d are loose", what, s.store.Loose())
				}
			}
		}
		if !down {
			s.set("alive", 0, put("a", "anew"))
			continue
		}
		s.store.Start(nil)
		s.set("alive, begun again", 0, put("a", "anew"))
		wantErr(t, "Arm", s.store.Arm(0), 0)
		wantErr(t, "crash", s.store.Sync(), api.ErrDown)
		wantErr(t, "a Set that the store is asked for", s.shelf.Set([]shelf.Change{gone("a")}), api.ErrDown)
		s.wantDead("dead")
	}
}

// wantDead holds a shelf against a dead one: each Set answers what the store did, whatever else it could, takes no step, and changes nothing of what it tells; also where the store has begun again.
func (s *site) wantDead(what string) {
	s.t.Helper()
	loose := s.store.Loose()
	for _, l := range [][]shelf.Change{
		nil, {}, {gone("nobody")}, {put("new", "value")}, {put("a", "dead"), gone("b")}, {gone("a")},
		{put("l", strings.Repeat("l", api.PageSize))}, {put("1", ""), put("2", ""), put("3", ""), put("4", ""), put("5", ""), put("6", ""), put("7", ""), put("8", "")},
	} {
		wantErr(s.t, fmt.Sprint(what, ": dead, Set of ", len(l)), s.shelf.Set(l), api.ErrDown)
		wantPairs(s.t, what+": dead", s.shelf, s.area.Count, s.plain.pairs)
	}
	if s.store.Loose() != loose {
		s.t.Errorf("%s: dead, %d are loose, were %d", what, s.store.Loose(), loose)
	}
}

// TestDeadTakesNoStep: SH2, a Set that answered an error of the store is followed by no other but that, though the store has begun again, and it takes no step.
func TestDeadTakesNoStep(t *testing.T) {
	s := newSite(t, 5)
	s.set("ahead", 0, put("a", "1"), put("b", "2"))
	wantErr(t, "Arm", s.store.Arm(0), 0)
	wantErr(t, "crash", s.shelf.Set([]shelf.Change{put("a", "2")}), api.ErrDown)
	s.wantDead("crashed")
	s.store.Start(nil)
	if n := s.counted("dead", func() { s.wantDead("begun again") }); n != 0 {
		t.Errorf("a dead shelf takes %d steps", n)
	}
	s.open("anew")
	s.set("anew", 0, put("a", "2"))
}

// TestCrashedAhead: SH2, a store that has crashed ahead of a Set answers it ErrDown, and nothing of the Set is loose.
func TestCrashedAhead(t *testing.T) {
	for _, l := range [][]shelf.Change{{put("c", "3")}, {put("a", "3")}, {gone("a")}, {gone("a"), put("b", "3")}} {
		s := newSite(t, 5)
		s.set("ahead", 0, put("a", "1"), put("b", "2"))
		wantErr(t, "Arm", s.store.Arm(0), 0)
		wantErr(t, "crash", s.store.Sync(), api.ErrDown)
		wantErr(t, fmt.Sprint("Set of ", l), s.shelf.Set(l), api.ErrDown)
		s.wantDead(fmt.Sprint("Set of ", l))
		s.store.Start([]int{0, 1, 2, 3})
		s.wantDead(fmt.Sprint("begun again, Set of ", l))
		s.open(fmt.Sprint("Set of ", l))
	}
}

// ahead are Sets that come ahead of one that is cut short, each a list of changes.
func ahead() [][][]shelf.Change {
	return [][][]shelf.Change{
		nil,
		{{put("a", "1"), put("b", "2")}},
		{{put("a", "1"), put("b", "2")}, {put("a", "2")}, {gone("b"), put("c", "")}},
		{{put("x", ""), put("y", ""), put("a", ""), put("b", "")}, {gone("x"), gone("y")}, {put("a", "1")}},
		{{put("b", "1")}, {gone("b")}},
	}
}

// cuts are Sets that are cut short.
func cuts() [][]shelf.Change {
	return [][]shelf.Change{
		{put("a", "anew")},
		{put("a", "anew"), put("b", "anew")},
		{put("d", "4"), gone("a"), put("b", "anew")},
		{put("d", "4"), put("a", "anew"), gone("c"), put("\x00", "0"), put("b", "anew")},
		{gone("a")},
		{gone("a"), gone("b"), gone("c")},
		{put("e", ""), put("a", ""), put("e", "5")},
	}
}

// begin is a shelf of so many pages behind some Sets.
func begin(t *testing.T, count int, sets [][]shelf.Change) *site {
	t.Helper()
	s := newSite(t, count)
	for _, l := range sets {
		_, steps, behind := s.plain.plan(l)
		wantErr(t, "ahead", s.shelf.Set(l), 0)
		s.plain.do(steps, behind)
	}
	s.check("ahead")
	return s
}

// keeping are the numbers of a set of bits.
func keeping(set int) []int {
	var keep []int
	for n := 0; set>>n > 0; n++ {
		if set>>n&1 == 1 {
			keep = append(keep, n)
		}
	}
	return keep
}

// TestCrash: SH2 and SH3, a crash within each step of a Set, with all sets of the loose writes kept: the pages are those of the steps ahead, so that leaves are written by rising keys to the lowest free places, made safe, and the root behind them; the shelf is dead; opened again there is all of that Set or nothing of it, and all of the ones before; and it goes on.
func TestCrash(t *testing.T) {
	for _, sets := range ahead() {
		for _, l := range cuts() {
			_, steps, _ := begin(t, 9, sets).plain.plan(l)
			for k := range steps {
				_, loose, _ := begin(t, 9, sets).plain.cut(steps, k, 0)
				for keep := range 1 << loose {
					wantCut(t, sets, l, k, keep)
				}
			}
		}
	}
}

// wantCut crashes within a step of a Set, keeps some writes, and opens the area anew.
func wantCut(t *testing.T, sets [][]shelf.Change, l []shelf.Change, k, keep int) {
	t.Helper()
	what := fmt.Sprintf("%v, Set of %v, step %d, kept %v", sets, l, k, keeping(keep))
	s := begin(t, 9, sets)
	_, steps, behind := s.plain.plan(l)
	held, loose, root := s.plain.cut(steps, k, keep)
	wantErr(t, what, s.store.Arm(k), 0)
	wantErr(t, what, s.shelf.Set(l), api.ErrDown)
	if s.store.Loose() != loose || !s.store.Down() {
		t.Errorf("%s: %d are loose, want %d; down %v", what, s.store.Loose(), loose, s.store.Down())
	}
	s.wantDead(what)
	s.store.Start(keeping(keep))
	s.wantDead(what + ", begun again")
	s.wantPages(what, held)
	s.plain.pages = held
	if root {
		s.plain.pairs = behind
	}
	s.open(what)
	if !root {
		s.set(what+", once more", 0, l...)
	}
	s.set(what+", on", 0, put("a", "on"), put("n", "on"))
	s.open(what + ", on")
}

// TestCrashBehind: SH3, a crash in a step behind a Set loses nothing of it.
func TestCrashBehind(t *testing.T) {
	for _, sets := range ahead() {
		for _, l := range cuts() {
			for _, keep := range [][]int{nil, {0}, {0, 1, 2, 3}} {
				what := fmt.Sprintf("%v, Set of %v", sets, l)
				s := begin(t, 9, sets)
				no, steps, behind := s.plain.plan(l)
				wantErr(t, what, s.store.Arm(len(steps)), 0)
				wantErr(t, what, s.shelf.Set(l), no)
				s.plain.do(steps, behind)
				s.check(what)
				wantErr(t, what, s.store.Write(0, nil), api.ErrDown)
				s.check(what + ", crashed")
				s.store.Start(keep)
				s.check(what + ", begun again")
				s.set(what+", which goes on", 0, put("n", "on"))
				s.open(what)
			}
		}
	}
}

// dice are numbers that follow from one another, so that a test does the same each time.
type dice uint64

// next is a number below n.
func (d *dice) next(n int) int {
	*d = *d*6364136223846793005 + 1442695040888963407
	return int(uint64(*d)>>33) % n
}

// changes are some, of few keys, a few of which are too long.
func (d *dice) changes() []shelf.Change {
	var l []shelf.Change
	for range d.next(5) {
		c := put(string(rune('a'+d.next(7))), fmt.Sprint(d.next(3)))
		switch d.next(20) {
		case 0:
			c.Value = strings.Repeat("\x00", 2040+d.next(8))
		case 1, 2, 3, 4, 5, 6, 7:
			c.Gone = true
		}
		l = append(l, c)
	}
	return l
}

// TestWhenever: SH3, shelves beside one another on one store, which crashes at any step, of whichever of them, whatever is kept: opened again each has what was set by calls that answered no error, and of the one that was cut short all, or nothing.
func TestWhenever(t *testing.T) {
	for seed := range 400 {
		d := dice(seed)
		p := newStore(t, 20)
		var sites []*site
		for from := d.next(3); from < 14; {
			count := 2 + d.next(6)
			sites = append(sites, newSiteOn(t, p, shelf.Area{From: from, Count: count}))
			from += count
		}
		for i := range 60 {
			what := fmt.Sprint("seed ", seed, ", Set ", i)
			if d.next(3) == 0 {
				wantErr(t, what, p.Arm(d.next(9)), 0)
			}
			s := sites[d.next(len(sites))]
			l := d.changes()
			no, steps, behind := s.plain.plan(l)
			err := s.shelf.Set(l)
			if !p.Down() {
				wantErr(t, what, err, no)
				s.plain.do(steps, behind)
				s.check(what)
				continue
			}
			wantErr(t, what, err, api.ErrDown)
			s.whenever(what, &d, steps, behind)
			for _, other := range sites {
				other.check(what + ": beside it")
				if d.next(2) == 0 {
					other.open(what + ": beside it")
				}
			}
		}
	}
}

// whenever begins a store anew whose crash has cut a Set short, with any of the loose writes, and finds out whether all or nothing of it is there.
func (s *site) whenever(what string, d *dice, steps []step, behind []pair) {
	s.t.Helper()
	var keep []int
	for n := range s.store.Loose() {
		if d.next(2) == 0 {
			keep = append(keep, n)
		}
	}
	s.store.Start(keep)
	for place := range s.plain.pages {
		b, err := s.store.Read(s.area.From + place)
		wantErr(s.t, what, err, 0)
		s.plain.pages[place] = string(b)
	}
	if s.plain.pages[0] == rootOf(behind) {
		s.plain.do(steps, behind)
	}
	s.open(what)
}

// TestBeside: SH1 and SH2, shelves whose areas touch change nothing of one another, nor of pages that are nobody's.
func TestBeside(t *testing.T) {
	p := newStore(t, 12)
	for _, page := range []int{0, 4, 11} {
		wantErr(t, "beside", p.Write(page, []byte("nobody's")), 0)
	}
	wantErr(t, "beside", p.Sync(), 0)
	sites := []*site{newSiteOn(t, p, shelf.Area{From: 1, Count: 3}), newSiteOn(t, p, shelf.Area{From: 5, Count: 2}), newSiteOn(t, p, shelf.Area{From: 7, Count: 4})}
	for i := range 4 {
		for n, s := range sites {
			value := fmt.Sprint(i, n)
			s.set(value, 0, gone("a"))
			s.set(value, 0, put("a", value))
			for _, other := range sites {
				other.check(value)
				other.open(value)
			}
		}
	}
	for _, page := range []int{0, 4, 11} {
		if b, err := p.Read(page); string(b) != "nobody's" || err != nil {
			t.Errorf("page %d is %q, %v", page, b, err)
		}
	}
}

// TestAnyKeys: SH2, keys and values are any bytes, which no other key is taken for, and stand in the order of their bytes.
func TestAnyKeys(t *testing.T) {
	keys := words("\x00\xffa", 3)
	s := newSite(t, len(keys)+3)
	var l []shelf.Change
	for i, key := range keys {
		l = append(l, put(key, keys[len(keys)-1-i]))
	}
	slices.Reverse(l)
	s.set("all", 0, l...)
	s.open("all")
	for place, key := range s.shelf.Keys() {
		value, _ := s.shelf.Get(key)
		s.page("by rising keys", place+1, laidLeaf(key, value))
	}
	for _, key := range keys {
		s.set("one goes", 0, gone(key))
		if _, ok := s.shelf.Get(key); ok {
			t.Errorf("%q has not gone", key)
		}
	}
}

// TestNil: SH2, a nil shelf answers ErrArg, ahead of all other errors, and nothing.
func TestNil(t *testing.T) {
	var s *shelf.Shelf
	for _, l := range [][]shelf.Change{nil, {}, {put("a", "1")}, {gone("a")}, {put("a", strings.Repeat("l", api.PageSize))}} {
		wantErr(t, "Set", s.Set(l), api.ErrArg)
	}
	for _, key := range []string{"", "a"} {
		if value, ok := s.Get(key); value != "" || ok {
			t.Errorf("Get of %q: %q, %v", key, value, ok)
		}
	}
	if l := s.Keys(); len(l) != 0 {
		t.Errorf("Keys: %q", l)
	}
	if n := s.Free(); n != 0 {
		t.Errorf("Free: %d", n)
	}
}

// TestMemoryIn: rule 3, a list that is set is not changed, spare room neither, and not kept: who changes it later changes nothing.
func TestMemoryIn(t *testing.T) {
	for _, no := range []api.Errno{0, api.ErrFull, api.ErrLong, api.ErrDown} {
		s := newSite(t, 5)
		s.set("ahead", 0, put("b", "2"), put("x", "y"))
		all := []shelf.Change{put("spare", ""), put("c", "3"), gone("b"), put("c", "4"), put("a", "1"), gone("nobody"), put("spare", ""), put("spare", "")}
		switch no {
		case api.ErrFull:
			all[3] = put("f", "")
		case api.ErrLong:
			all[3].Value = strings.Repeat("l", api.PageSize)
		case api.ErrDown:
			wantErr(t, "Arm", s.store.Arm(2), 0)
		}
		was := slices.Clone(all)
		l := all[1:6]
		_, steps, behind := s.plain.plan(l)
		wantErr(t, "Set", s.shelf.Set(l), no)
		if !slices.Equal(all, was) {
			t.Errorf("Set has changed its argument: %v", all)
		}
		for i := range all {
			all[i] = put("overwritten", "overwritten")
		}
		if no == 0 {
			s.plain.do(steps, behind)
		}
		s.check(fmt.Sprint("overwritten, ", no))
		if no == 0 {
			s.set("behind it", 0, put("a", "2"))
			s.open("behind it")
		}
	}
}

// TestMemoryOut: rule 3, who overwrites what Keys told, or its spare room, changes nothing, nor another answer; and what was told stays, whatever is set later.
func TestMemoryOut(t *testing.T) {
	for n := range 12 {
		s := newSite(t, 15)
		for i := range n {
			s.set("ahead", 0, put(fmt.Sprint("k", i), fmt.Sprint(i)))
		}
		first, second := s.shelf.Keys(), s.shelf.Keys()
		was := slices.Clone(second)
		first = first[:cap(first)]
		for i := range first {
			first[i] = "overwritten"
		}
		s.check("overwritten")
		if !slices.Equal(second, was) {
			t.Errorf("another answer has changed: %q", second)
		}
		s.set("behind it", 0, put("a", ""), gone("k0"))
		if !slices.Equal(second, was) {
			t.Errorf("an answer has changed behind a Set: %q", second)
		}
	}
}

// TestMemoryPages: rule 3, who overwrites a page's bytes that the store told changes no shelf.
func TestMemoryPages(t *testing.T) {
	s := newSite(t, 4)
	s.set("ahead", 0, put("a", "1"))
	s.open("ahead")
	for place := range 4 {
		b, _ := s.store.Read(s.area.From + place)
		for i := range b {
			b[i] = '!'
		}
	}
	s.check("overwritten")
	s.set("behind it", 0, put("b", "2"))
	s.open("behind it")
}

// TestAskingChangesNothing: rule 4, what is asked takes no step, and the same answer comes again.
func TestAskingChangesNothing(t *testing.T) {
	s := newSite(t, 6)
	s.set("ahead", 0, put("a", "1"), put("b", ""), put("c", "3"))
	s.set("ahead", 0, gone("b"))
	n := s.counted("asked", func() {
		for range 5 {
			s.check("asked")
		}
	})
	if n != 0 {
		t.Errorf("asking took %d steps", n)
	}
}

// TestMany: rule 1, all places of the longest area are filled with leaves as long as can be, in one Set, changed one by one, and emptied in one.
func TestMany(t *testing.T) {
	s := newSite(t, 1024)
	var l, away []shelf.Change
	for i := range 1023 {
		key := fmt.Sprintf("key %04d", i*7%1023)
		l = append(l, put(key, strings.Repeat("v", api.PageSize-4-len(key))))
		away = append(away, gone(key))
	}
	s.set("all", 0, l...)
	s.set("all the same", 0, l...)
	s.set("one anew", api.ErrFull, put(l[0].Key, ""))
	s.set("one away", 0, away[5])
	for _, i := range []int{0, 511, 1022} {
		s.set("one anew", 0, put(l[i].Key, "anew"))
	}
	s.open("all")
	s.set("all away", 0, away...)
	s.page("all away", 0, "\x00")
	s.set("all again", 0, l...)
	s.open("all again")
}

// FuzzOpen: rule 1 and SH1, of any pages: a shelf, or ErrHalt; a shelf's pairs, laid on pages again, are those that its root tells.
func FuzzOpen(f *testing.F) {
	f.Add([]byte(""), []byte(""), []byte(""))
	f.Add([]byte(laidRoot(1, 2)), []byte(laidLeaf("a", "1")), []byte(laidLeaf("b", "\x002")))
	f.Add([]byte(laidRoot(2)), []byte("x"), []byte(laidLeaf("", "")))
	f.Add([]byte(laidRoot(1, 2)), []byte(laidLeaf("a", "1")), []byte(laidLeaf("a", "2")))
	f.Add([]byte(laidRoot(2, 1)), []byte("x\x00\xff\x00\x00"), []byte("\x00\x00\x00"))
	f.Fuzz(func(t *testing.T, root, first, second []byte) {
		p := newStore(t, 3)
		texts := [][]byte{root, first, second}
		for page, b := range texts {
			if p.Write(page, b) != nil {
				return
			}
		}
		s, err := shelf.Open(p, shelf.Area{Count: 3})
		if err != nil {
			wantErr(t, "Open", err, api.ErrHalt)
			return
		}
		var places []int
		for place := 1; place <= 2; place++ {
			for _, key := range s.Keys() {
				if value, _ := s.Get(key); laidLeaf(key, value) == string(texts[place]) {
					places = append(places, place)
				}
			}
		}
		told := len(s.Keys())
		if told+s.Free() != 2 || told > len(places) {
			t.Errorf("keys %q, %d are free, of %q", s.Keys(), s.Free(), texts)
		}
		if string(root) != "" && told == len(places) && string(root) != laidRoot(places...) {
			t.Errorf("keys %q of %q", s.Keys(), texts)
		}
	})
}

// FuzzShelf: SH2 and SH3, any Sets, crashes, and Opens, against the plain shelf.
func FuzzShelf(f *testing.F) {
	f.Add([]byte("\x04some changes, then a crash, and more of them"))
	f.Add([]byte("\x02abcabcabc\x00\x00\x00\xff\xff\xffcccaaabbb"))
	f.Add([]byte("\x07\x01\x81\x41\xc1\x21\xa1\x61\xe1\x11\x91\x51\xd1\x31\xb1\x71\xf1"))
	f.Fuzz(func(t *testing.T, b []byte) {
		if len(b) == 0 || len(b) > 300 {
			return
		}
		s := newSite(t, 2+int(b[0]%8))
		d := dice(len(b))
		var l []shelf.Change
		for i, x := range b[1:] {
			what := fmt.Sprint("byte ", i)
			c := put(string(rune('a'+x>>2%6)), fmt.Sprint(x>>5))
			c.Gone = x>>5 == 7
			l = append(l, c)
			if x&3 == 3 {
				continue
			}
			no, steps, behind := s.plain.plan(l)
			if x&3 == 2 {
				wantErr(t, what, s.store.Arm(int(x>>4)), 0)
			}
			err := s.shelf.Set(l)
			l = nil
			if s.store.Down() {
				wantErr(t, what, err, api.ErrDown)
				s.wantDead(what)
				s.whenever(what, &d, steps, behind)
				continue
			}
			s.store.Start(nil)
			wantErr(t, what, err, no)
			s.plain.do(steps, behind)
			s.check(what)
		}
		s.open("at last")
	})
}
