package pages_test

import (
	"bytes"
	"errors"
	"fmt"
	"math"
	"slices"
	"strings"
	"testing"

	"bayou/api"
	"bayou/pages"
)

// number is an error's number; 0: there is none.
func number(err error) api.Errno {
	var n api.Errno
	if err != nil && !errors.As(err, &n) {
		panic(err)
	}
	return n
}

// wantErr holds an error against the number that is asked for; 0: none.
func wantErr(t *testing.T, what string, err error, want api.Errno) {
	t.Helper()
	var got api.Errno
	switch {
	case want == 0 && err != nil:
		t.Errorf("%s: %v, want no error", what, err)
	case want != 0 && (!errors.As(err, &got) || got != want):
		t.Errorf("%s: %v, want %v", what, err, want)
	}
}

// newStore is a store of so many pages, which must be.
func newStore(t *testing.T, n int) *pages.Store {
	t.Helper()
	s, err := pages.New(n)
	if err != nil || s == nil {
		t.Fatalf("New of %d: %v, %v", n, s, err)
	}
	return s
}

// written is what was written to a page.
type written struct {
	page int
	text string
}

// plain is a store as lists of all that was ever written and not lost, in order: what a Store is held against.
type plain struct {
	pages       int
	safe, loose []written
	taken       int   // steps since the beginning
	crash       []int // the step that crashes, if the store is armed
	down        bool
}

// step takes a step: what it answers.
func (p *plain) step() api.Errno {
	p.taken++
	if len(p.crash) > 0 && p.taken == p.crash[0] {
		p.down = true
		return api.ErrDown
	}
	return 0
}

// write is what Write answers.
func (p *plain) write(page int, text string) api.Errno {
	switch {
	case page < 0 || page >= p.pages:
		return api.ErrArg
	case len(text) > api.PageSize:
		return api.ErrLong
	case p.down:
		return api.ErrDown
	}
	p.loose = append(slices.Clip(p.loose), written{page, text})
	return p.step()
}

// sync is what Sync answers.
func (p *plain) sync() api.Errno {
	if p.down {
		return api.ErrDown
	}
	no := p.step()
	if no == 0 {
		p.safe, p.loose = slices.Concat(p.safe, p.loose), nil
	}
	return no
}

// arm is what Arm answers.
func (p *plain) arm(steps int) api.Errno {
	if steps < 0 {
		return api.ErrArg
	}
	p.crash = []int{p.taken + steps + 1}
	return 0
}

// start keeps some of the loose writes.
func (p *plain) start(keep []int) {
	for n, w := range p.loose {
		if slices.Contains(keep, n) {
			p.safe = append(slices.Clip(p.safe), w)
		}
	}
	p.loose, p.crash, p.down = nil, nil, false
}

// read is what a page has.
func (p *plain) read(page int) string {
	text := ""
	for _, w := range slices.Concat(p.safe, p.loose) {
		if w.page == page {
			text = w.text
		}
	}
	return text
}

// check holds a store against the plain one; where it has crashed, no page can be read.
func (p *plain) check(t *testing.T, what string, s *pages.Store) {
	t.Helper()
	if s.Pages() != p.pages || s.Loose() != len(p.loose) || s.Down() != p.down {
		t.Errorf("%s: %d pages, %d loose, down %v; want %d, %d, %v", what, s.Pages(), s.Loose(), s.Down(), p.pages, len(p.loose), p.down)
	}
	for page := range p.pages {
		b, err := s.Read(page)
		want, no := p.read(page), api.Errno(0)
		if p.down {
			want, no = "", api.ErrDown
		}
		wantErr(t, fmt.Sprint(what, ": Read of ", page), err, no)
		if string(b) != want || no != 0 && b != nil {
			t.Errorf("%s: page %d is %q, want %q", what, page, short(string(b)), short(want))
		}
	}
	for _, page := range []int{-1, p.pages} {
		_, err := s.Read(page)
		wantErr(t, fmt.Sprint(what, ": Read of ", page), err, api.ErrArg)
	}
}

// short is a text that is not too long to be told.
func short(text string) string {
	if len(text) <= 40 {
		return text
	}
	return fmt.Sprint(text[:20], "..", text[len(text)-10:], " of ", len(text))
}

// site is a store beside the plain one.
type site struct {
	t     *testing.T
	s     *pages.Store
	plain *plain
}

// newSite is a store of so many pages, and the plain one.
func newSite(t *testing.T, n int) *site {
	t.Helper()
	return &site{t, newStore(t, n), &plain{pages: n}}
}

// write writes to both, and holds the error against what is asked for.
func (s *site) write(what string, page int, text string, want api.Errno) {
	s.t.Helper()
	wantErr(s.t, what, s.s.Write(page, []byte(text)), want)
	if no := s.plain.write(page, text); no != want {
		s.t.Fatalf("%s: the plain store answers %d, want %d", what, no, want)
	}
	s.plain.check(s.t, what, s.s)
}

// sync makes both safe.
func (s *site) sync(what string, want api.Errno) {
	s.t.Helper()
	wantErr(s.t, what, s.s.Sync(), want)
	if no := s.plain.sync(); no != want {
		s.t.Fatalf("%s: the plain store answers %d, want %d", what, no, want)
	}
	s.plain.check(s.t, what, s.s)
}

// arm arms both.
func (s *site) arm(what string, steps int, want api.Errno) {
	s.t.Helper()
	wantErr(s.t, what, s.s.Arm(steps), want)
	if no := s.plain.arm(steps); no != want {
		s.t.Fatalf("%s: the plain store answers %d, want %d", what, no, want)
	}
	s.plain.check(s.t, what, s.s)
}

// start begins both again.
func (s *site) start(what string, keep ...int) {
	s.t.Helper()
	s.s.Start(keep)
	s.plain.start(keep)
	s.plain.check(s.t, what, s.s)
}

// page holds a page against a text, as it stands in the chapter rather than as the plain store has it.
func (s *site) page(what string, page int, want string) {
	s.t.Helper()
	b, err := s.s.Read(page)
	wantErr(s.t, what, err, 0)
	if string(b) != want {
		s.t.Errorf("%s: page %d is %q, want %q", what, page, short(string(b)), short(want))
	}
}

// loose holds how many writes are loose against a number, told by whoever asks.
func (s *site) loose(what string, want int) {
	s.t.Helper()
	if n := s.s.Loose(); n != want {
		s.t.Errorf("%s: %d are loose, want %d", what, n, want)
	}
}

// TestExample: PG3, the example of the chapter; and what else could be kept.
func TestExample(t *testing.T) {
	for want, keeps := range map[string][][]int{
		"":  {nil, {}, {2}, {-1}},
		"a": {{0}},
		"b": {{1}, {0, 1}, {1, 0}},
	} {
		for _, keep := range keeps {
			s := newSite(t, 3)
			s.write("a", 1, "a", 0)
			s.write("b", 1, "b", 0)
			s.start(fmt.Sprint("Start of ", keep), keep...)
			s.page(fmt.Sprint("Start of ", keep), 1, want)
		}
	}
}

// TestNew: PG1, numbers of pages at and beyond their bounds; a new store has empty pages, and nothing that is loose.
func TestNew(t *testing.T) {
	for _, n := range []int{1, 2, 3, 100, api.MaxList - 1, api.MaxList} {
		newSite(t, n).start(fmt.Sprint("New of ", n))
		s := newStore(t, n)
		(&plain{pages: n}).check(t, fmt.Sprint("New of ", n), s)
	}
	for _, n := range []int{0, -1, -2, math.MinInt, api.MaxList + 1, 2 * api.MaxList, math.MaxInt} {
		s, err := pages.New(n)
		wantErr(t, fmt.Sprint("New of ", n), err, api.ErrArg)
		if s != nil {
			t.Errorf("New of %d: %v beside the error", n, s)
		}
	}
}

// TestNewIsItsOwn: PG1, each store has pages of its own, and crashes alone.
func TestNewIsItsOwn(t *testing.T) {
	a, b := newSite(t, 2), newSite(t, 2)
	a.write("a", 0, "a", 0)
	b.write("b", 1, "b", 0)
	a.sync("a", 0)
	a.arm("a", 0, 0)
	b.write("b", 0, "B", 0)
	a.sync("a", api.ErrDown)
	b.sync("b", 0)
	a.start("a")
	for _, s := range []*site{a, b} {
		s.plain.check(t, "at last", s.s)
	}
}

// TestEachPage: PG1, of as many pages as can be each one has what was written to it, loose and safe, and no other's.
func TestEachPage(t *testing.T) {
	for _, n := range []int{1, 2, 3, 256, 257, api.MaxList} {
		s := newStore(t, n)
		p := &plain{pages: n}
		for i := range n {
			page := (i*7 + 3) % n
			text := fmt.Sprint("page ", page)
			wantErr(t, text, s.Write(page, []byte(text)), 0)
			p.write(page, text)
		}
		for _, do := range []func(){func() {}, func() { s.Sync(); p.sync() }, func() { s.Start(nil); p.start(nil) }} {
			do()
			for page := range n {
				if b, err := s.Read(page); string(b) != fmt.Sprint("page ", page) || err != nil {
					t.Fatalf("page %d of %d is %q, %v", page, n, b, err)
				}
			}
			if s.Loose() != len(p.loose) {
				t.Errorf("of %d pages %d are loose, want %d", n, s.Loose(), len(p.loose))
			}
		}
	}
}

// others are numbers of no page, of so many.
func others(n int) []int {
	return []int{-1, -2, -n, math.MinInt, math.MinInt + 1, n, n + 1, 2 * n, n + 1<<32, math.MaxInt}
}

// TestPageBounds: PG1, Read and Write of the first page, of the last one, and of none, which changes nothing, whether there is something already, and in a store that has crashed.
func TestPageBounds(t *testing.T) {
	for _, n := range []int{1, 2, 5, 300, api.MaxList} {
		s := newStore(t, n)
		for _, page := range []int{0, n / 2, n - 1} {
			text := fmt.Sprint("page ", page)
			wantErr(t, text, s.Write(page, []byte(text)), 0)
			if b, err := s.Read(page); string(b) != text || err != nil {
				t.Errorf("page %d of %d is %q, %v", page, n, b, err)
			}
		}
		bad := func(what string, want int) {
			t.Helper()
			for _, page := range others(n) {
				b, err := s.Read(page)
				wantErr(t, fmt.Sprint(what, ": Read of ", page, " of ", n), err, api.ErrArg)
				if b != nil {
					t.Errorf("%s: Read of %d of %d: %q beside the error", what, page, n, b)
				}
				wantErr(t, fmt.Sprint(what, ": Write of ", page, " of ", n), s.Write(page, []byte("x")), api.ErrArg)
			}
			if s.Loose() != want {
				t.Errorf("%s: %d are loose, want %d", what, s.Loose(), want)
			}
		}
		bad("loose", 3)
		wantErr(t, "Sync", s.Sync(), 0)
		bad("safe", 0)
		wantErr(t, "Arm", s.Arm(0), 0)
		wantErr(t, "Write", s.Write(0, []byte("y")), api.ErrDown)
		bad("crashed", 1)
		s.Start([]int{0})
		bad("begun again", 0)
		if b, err := s.Read(0); string(b) != "y" || err != nil {
			t.Errorf("page 0 of %d is %q, %v", n, b, err)
		}
	}
}

// TestWriteLength: PG1, a page has from none to PageSize bytes, of all kinds; one more is too long, and changes nothing.
func TestWriteLength(t *testing.T) {
	all := make([]byte, api.PageSize)
	for i := range all {
		all[i] = byte(i * 31)
	}
	s := newSite(t, 3)
	for _, n := range []int{api.PageSize, 0, 1, 2, 255, 256, 257, api.PageSize - 1, api.PageSize, 0} {
		what := fmt.Sprint(n, " bytes")
		s.write(what, 1, string(all[:n]), 0)
		s.page(what, 1, string(all[:n]))
		s.sync(what, 0)
		s.page(what+", safe", 1, string(all[:n]))
	}
	s.write("ahead", 2, "ahead", 0)
	for _, n := range []int{api.PageSize + 1, api.PageSize + 2, 2 * api.PageSize, 1 << 16, api.MaxBytes} {
		s.write(fmt.Sprint(n, " bytes"), 2, strings.Repeat("x", n), api.ErrLong)
		s.loose(fmt.Sprint(n, " bytes"), 1)
	}
	s.page("behind them", 2, "ahead")
}

// TestWriteNone: PG1, nil and no bytes are the same: an empty page is written as any other one, and takes the place of what was there.
func TestWriteNone(t *testing.T) {
	for what, b := range map[string][]byte{"nil": nil, "empty": {}, "cut": make([]byte, 0, 5)} {
		s := newStore(t, 2)
		wantErr(t, what, s.Write(1, []byte("full")), 0)
		wantErr(t, what, s.Sync(), 0)
		wantErr(t, what, s.Write(1, b), 0)
		if got, err := s.Read(1); len(got) != 0 || err != nil || s.Loose() != 1 {
			t.Errorf("%s: %q, %v, %d are loose", what, got, err, s.Loose())
		}
		s.Start(nil)
		if got, err := s.Read(1); string(got) != "full" || err != nil {
			t.Errorf("%s, lost: %q, %v", what, got, err)
		}
		wantErr(t, what, s.Write(1, b), 0)
		s.Start([]int{0})
		if got, err := s.Read(1); len(got) != 0 || err != nil {
			t.Errorf("%s, kept: %q, %v", what, got, err)
		}
	}
}

// TestReadLast: PG1, Read tells what was written last: behind no write, one, some to the same page, to others between, and with a Sync between; Loose behind each of these.
func TestReadLast(t *testing.T) {
	s := newSite(t, 4)
	s.page("none", 2, "")
	s.loose("none", 0)
	s.write("one", 2, "one", 0)
	s.page("one", 2, "one")
	s.loose("one", 1)
	for i, text := range []string{"two, which is longer", "3", "", "five"} {
		s.write("some", 2, text, 0)
		s.page("some", 2, text)
		s.loose("some", i+2)
	}
	s.write("other", 1, "other", 0)
	s.page("other", 2, "five")
	s.page("other", 1, "other")
	s.page("other", 3, "")
	s.loose("other", 6)
	s.sync("Sync", 0)
	s.page("Sync", 2, "five")
	s.page("Sync", 1, "other")
	s.loose("Sync", 0)
	s.write("behind it", 1, "anew", 0)
	s.page("behind it", 2, "five")
	s.page("behind it", 1, "anew")
	s.loose("behind it", 1)
	s.write("the same", 1, "anew", 0)
	s.loose("the same bytes are a write, too", 2)
	s.sync("Sync", 0)
	s.sync("Sync of nothing", 0)
	s.page("Sync of nothing", 1, "anew")
	s.loose("Sync of nothing", 0)
}

// TestSyncKeeps: PG1 and PG4, what was made safe is not lost, and of some writes to a page the last one is safe.
func TestSyncKeeps(t *testing.T) {
	s := newSite(t, 3)
	for _, text := range []string{"a", "b", "c"} {
		s.write(text, 0, text, 0)
		s.write(text, 2, text+text, 0)
	}
	s.sync("Sync", 0)
	s.write("behind it", 0, "lost", 0)
	s.start("Start")
	s.page("Start", 0, "c")
	s.page("Start", 1, "")
	s.page("Start", 2, "cc")
}

// kinds tells steps by letters: w a Write, s a Sync; every list of so many.
func kinds(n int) []string {
	all := []string{""}
	for range n {
		var more []string
		for _, l := range all {
			more = append(more, l+"w", l+"s")
		}
		all = more
	}
	return all
}

// take takes a step, told by its letter.
func (s *site) take(what string, kind rune, i int, want api.Errno) {
	s.t.Helper()
	if kind == 's' {
		s.sync(what, want)
		return
	}
	s.write(what, i%s.plain.pages, fmt.Sprint(what, i), want)
}

// TestArm: PG2, the step that comes behind so many answers ErrDown, whatever the steps are, and those ahead of it are done; so is a Write that crashes loose, and a Sync that crashes makes nothing safe.
func TestArm(t *testing.T) {
	for _, ahead := range []string{"", "w", "wsw"} {
		for steps := range 5 {
			for _, l := range kinds(steps + 1) {
				what := fmt.Sprint(ahead, " Arm of ", steps, " ", l)
				s := newSite(t, 3)
				for i, kind := range ahead {
					s.take("ahead", kind, i, 0)
				}
				s.arm(what, steps, 0)
				for i, kind := range l[:steps] {
					s.take(what, kind, i, 0)
				}
				loose := s.s.Loose()
				s.take(what, rune(l[steps]), steps, api.ErrDown)
				if l[steps] == 'w' {
					loose++
				}
				s.loose(what, loose)
				if !s.s.Down() {
					t.Errorf("%s: it has not crashed", what)
				}
			}
		}
	}
}

// TestArmLong: PG2, a store that is armed for many steps takes so many, and crashes then; for more than anybody takes, never.
func TestArmLong(t *testing.T) {
	for _, steps := range []int{100, 255, 256, 65536, math.MaxInt32, 1 << 40, math.MaxInt} {
		s := newStore(t, 2)
		wantErr(t, "Arm", s.Arm(steps), 0)
		for i := range min(steps, 70000) {
			var err error
			if i%3 == 0 {
				err = s.Sync()
			} else {
				err = s.Write(i%2, []byte{byte(i)})
			}
			if err != nil || s.Down() {
				t.Fatalf("Arm of %d: step %d: %v", steps, i, err)
			}
		}
		if steps < 70000 {
			wantErr(t, fmt.Sprint("Arm of ", steps), s.Sync(), api.ErrDown)
		}
	}
}

// TestArmBounds: PG2, a number below 0: ErrArg, and what was armed stays; what was not is not.
func TestArmBounds(t *testing.T) {
	bad := []int{-1, -2, -100, math.MinInt, math.MinInt + 1}
	s := newSite(t, 2)
	for _, steps := range bad {
		s.arm(fmt.Sprint("Arm of ", steps), steps, api.ErrArg)
		for i, kind := range "wsws" {
			s.take("not armed", kind, i, 0)
		}
	}
	s.arm("Arm", 2, 0)
	for _, steps := range bad {
		s.arm("armed", steps, api.ErrArg)
	}
	s.write("first", 0, "first", 0)
	for _, steps := range bad {
		s.arm("armed", steps, api.ErrArg)
	}
	s.sync("second", 0)
	s.write("third", 1, "third", api.ErrDown)
	for _, steps := range bad {
		s.arm("crashed", steps, api.ErrArg)
	}
	s.start("Start", 0)
	s.page("Start", 1, "third")
}

// TestArmAgain: PG2, another Arm takes the place of the one ahead of it, whether it is for more steps or for fewer, and counts from then on.
func TestArmAgain(t *testing.T) {
	for first := range 4 {
		for between := range first + 1 {
			for second := range 5 {
				what := fmt.Sprint("Arm of ", first, ", ", between, " steps, Arm of ", second)
				s := newSite(t, 2)
				s.arm(what, first, 0)
				for i := range between {
					s.write(what, i%2, fmt.Sprint(i), 0)
				}
				s.arm(what, second, 0)
				for i := range second {
					s.take(what, rune("sw"[i%2]), i, 0)
				}
				s.write(what, 1, "crash", api.ErrDown)
			}
		}
	}
}

// noStep does all that is no step: what answers ErrArg or ErrLong, and what asks.
func (s *site) noStep(what string) {
	s.t.Helper()
	for _, page := range others(s.plain.pages) {
		s.write(what, page, "x", api.ErrArg)
		s.write(what, page, strings.Repeat("x", api.PageSize+1), api.ErrArg)
	}
	s.write(what, 0, strings.Repeat("x", api.PageSize+1), api.ErrLong)
	for _, page := range []int{0, s.plain.pages - 1, s.plain.pages} {
		s.s.Read(page)
	}
	s.s.Pages()
	s.s.Loose()
	s.s.Down()
	s.arm(what, -1, api.ErrArg)
}

// TestArmNoStep: PG2, calls that are no step count for none, and do not crash.
func TestArmNoStep(t *testing.T) {
	for steps := range 4 {
		for _, l := range kinds(steps + 1) {
			what := fmt.Sprint("Arm of ", steps, " ", l)
			s := newSite(t, 3)
			s.arm(what, steps, 0)
			s.noStep(what)
			for i, kind := range l[:steps] {
				s.take(what, kind, i, 0)
				s.noStep(what)
			}
			s.take(what, rune(l[steps]), steps, api.ErrDown)
			s.noStep(what)
		}
	}
}

// TestArmWrite: PG2, the Write that crashes is loose: it can be kept, and lost.
func TestArmWrite(t *testing.T) {
	for want, keep := range map[string][]int{"safe": nil, "first": {0}, "second": {1}} {
		for _, all := range []bool{false, true} {
			s := newSite(t, 2)
			s.write("safe", 0, "safe", 0)
			s.sync("safe", 0)
			s.arm("Arm", 1, 0)
			s.write("first", 0, "first", 0)
			s.write("second", 0, "second", api.ErrDown)
			s.loose("crashed", 2)
			if all {
				keep, want = []int{0, 1}, "second"
			}
			s.start(fmt.Sprint("Start of ", keep), keep...)
			s.page(fmt.Sprint("Start of ", keep), 0, want)
		}
	}
}

// TestArmSync: PG2, the Sync that crashes makes nothing safe: all that was loose ahead of it can be lost, and kept.
func TestArmSync(t *testing.T) {
	for _, keep := range [][]int{nil, {0}, {1}, {0, 1}} {
		s := newSite(t, 2)
		s.write("safe", 0, "safe", 0)
		s.write("safe", 1, "Safe", 0)
		s.sync("safe", 0)
		s.write("first", 0, "first", 0)
		s.write("second", 1, "second", 0)
		s.arm("Arm", 0, 0)
		s.sync("Sync", api.ErrDown)
		s.loose("crashed", 2)
		what := fmt.Sprint("Start of ", keep)
		s.start(what, keep...)
		want := []string{"safe", "Safe"}
		for _, n := range keep {
			want[n] = []string{"first", "second"}[n]
		}
		s.page(what, 0, want[0])
		s.page(what, 1, want[1])
	}
}

// TestDown: PG1 and PG2, all answers ErrDown till Start, however often it is asked: nothing is written then, and nothing made safe; what tells no error goes on telling, and to arm it changes nothing.
func TestDown(t *testing.T) {
	for _, kind := range "ws" {
		s := newSite(t, 3)
		s.write("safe", 0, "safe", 0)
		s.sync("safe", 0)
		s.write("loose", 1, "loose", 0)
		s.arm("Arm", 0, 0)
		s.take("crash", kind, 2, api.ErrDown)
		loose := s.s.Loose()
		for steps := range 4 {
			for page := range 3 {
				s.write("crashed", page, "x", api.ErrDown)
				s.sync("crashed", api.ErrDown)
				_, err := s.s.Read(page)
				wantErr(t, "Read", err, api.ErrDown)
			}
			s.loose("crashed", loose)
			if !s.s.Down() || s.s.Pages() != 3 {
				t.Errorf("%c: Down %v, Pages %d", kind, s.s.Down(), s.s.Pages())
			}
			s.arm("crashed", 3-steps, 0)
		}
		s.start("Start", 0, 1, 2, 3, 4, 5, 6)
		s.page("Start", 0, "safe")
		s.page("Start", 1, "loose")
		for i, l := range kinds(5)[3] {
			s.take("not armed", l, i, 0)
		}
	}
}

// asked is a call of Write or of Read, in a store that may have crashed.
type asked struct {
	page, length int
	down         bool
}

// fault is something by which a call answers an error, where in the rule it stands, and what it changes.
type fault struct {
	what  string
	rank  int
	want  api.Errno
	field string
	do    func(a *asked)
}

// faults are all kinds of what is not let by, in a store of 3 pages.
func faults() []fault {
	var l []fault
	for _, page := range others(3) {
		l = append(l, fault{fmt.Sprint("page ", page), 0, api.ErrArg, "page", func(a *asked) { a.page = page }})
	}
	for _, n := range []int{api.PageSize + 1, 2 * api.PageSize, api.MaxBytes} {
		l = append(l, fault{fmt.Sprint("bytes ", n), 1, api.ErrLong, "bytes", func(a *asked) { a.length = n }})
	}
	return append(l, fault{"crashed", 2, api.ErrDown, "down", func(a *asked) { a.down = true }})
}

// want writes, and reads, and holds the errors against what is asked for; nothing changes, where there is one. A Read hands no bytes in.
func (a asked) want(t *testing.T, what string, write, read api.Errno) {
	t.Helper()
	s := newSite(t, 3)
	s.write(what, 1, "safe", 0)
	s.sync(what, 0)
	s.write(what, 1, "loose", 0)
	if a.down {
		s.arm(what, 0, 0)
		s.sync(what, api.ErrDown)
	}
	b, err := s.s.Read(a.page)
	wantErr(t, what+": Read", err, read)
	if read != 0 && b != nil {
		t.Errorf("%s: %q beside the error", what, b)
	}
	s.write(what+": Write", a.page, strings.Repeat("y", a.length), write)
	if write != 0 {
		s.loose(what, 1)
		s.start(what, 0, 1)
		s.page(what, 1, "loose")
	}
}

// TestErrorsAlone: PG1, each error of Write and of Read, alone.
func TestErrorsAlone(t *testing.T) {
	asked{1, 5, false}.want(t, "no error", 0, 0)
	for _, f := range faults() {
		a := asked{1, 5, false}
		f.do(&a)
		read := f.want
		if f.field == "bytes" {
			read = 0
		}
		a.want(t, f.what, f.want, read)
	}
}

// TestErrorsOrder: PG1, of two errors the one that the rule names first: ErrArg, ErrLong, ErrDown.
func TestErrorsOrder(t *testing.T) {
	for _, f := range faults() {
		for _, g := range faults() {
			if f.field == g.field || f.rank > g.rank {
				continue
			}
			a := asked{2, 5, false}
			f.do(&a)
			g.do(&a)
			read := f.want
			if f.field == "bytes" {
				read = g.want
			}
			a.want(t, f.what+" and "+g.what, f.want, read)
		}
	}
}

// TestErrorsAll: PG1, all errors together, and one after the other mended.
func TestErrorsAll(t *testing.T) {
	a := asked{3, api.PageSize + 1, true}
	a.want(t, "all", api.ErrArg, api.ErrArg)
	a.page = 2
	a.want(t, "a page that is there", api.ErrLong, api.ErrDown)
	a.length = api.PageSize
	a.want(t, "no more bytes than can be", api.ErrDown, api.ErrDown)
	a.down = false
	a.want(t, "not crashed", 0, 0)
}

// some is a store with some that is safe, and five writes that are loose: three to one page, one to another, and one to one of which nothing is safe. It has crashed by a Write (the last of them), by a Sync, or not at all.
func some(t *testing.T, crash string) *site {
	t.Helper()
	s := newSite(t, 5)
	for page, text := range []string{"safe 0", "safe 1", "safe 2"} {
		s.write("safe", page, "lost "+text, 0)
		s.write("safe", page, text, 0)
	}
	s.sync("safe", 0)
	s.write("loose", 1, "b", 0)
	s.write("loose", 2, "c", 0)
	s.write("loose", 1, "B", 0)
	s.write("loose", 3, "d", 0)
	switch crash {
	case "by a Write":
		s.arm("Arm", 0, 0)
		s.write("crash", 1, "", api.ErrDown)
	case "by a Sync":
		s.write("loose", 1, "", 0)
		s.arm("Arm", 0, 0)
		s.sync("crash", api.ErrDown)
	case "armed":
		s.write("loose", 1, "", 0)
		s.arm("Arm", 1, 0)
	default:
		s.write("loose", 1, "", 0)
	}
	return s
}

// crashes are all ways in which some stands ahead of Start.
func crashes() []string { return []string{"by a Write", "by a Sync", "armed", "not at all"} }

// wantKept holds a store of some, begun again, against the writes that are kept, told one by one in their order.
func (s *site) wantKept(what string, kept ...bool) {
	s.t.Helper()
	want := []string{"safe 0", "safe 1", "safe 2", "", ""}
	for n, w := range []written{{1, "b"}, {2, "c"}, {1, "B"}, {3, "d"}, {1, ""}} {
		if kept[n] {
			want[w.page] = w.text
		}
	}
	for page, text := range want {
		s.page(what, page, text)
	}
	s.loose(what, 0)
	if s.s.Down() {
		s.t.Errorf("%s: it has crashed", what)
	}
}

// TestStart: PG3, none, some and all of the loose writes, in any order, more than once, and with numbers of none, in stores that crashed and in ones that did not: those that are told are done in the order in which they were written.
func TestStart(t *testing.T) {
	none := []int{-1, 5, 6, -5, 100, math.MinInt, math.MaxInt, 1 << 32}
	for _, crash := range crashes() {
		for set := range 1 << 5 {
			var keep []int
			kept := make([]bool, 5)
			for n := range kept {
				if set>>n&1 == 1 {
					keep, kept[n] = append(keep, n), true
				}
			}
			back := slices.Clone(keep)
			slices.Reverse(back)
			for _, l := range [][]int{keep, back, slices.Concat(keep, keep), slices.Concat(back, keep, back), slices.Concat(none, keep), slices.Concat(keep, none), slices.Concat(none, back, none, keep, none)} {
				what := fmt.Sprint(crash, ": Start of ", l)
				s := some(t, crash)
				s.start(what, l...)
				s.wantKept(what, kept...)
			}
		}
	}
}

// TestStartOrders: PG3, in whatever order all are told, the page has what was written last.
func TestStartOrders(t *testing.T) {
	l := []int{0, 1, 2, 3}
	var swap func(n int)
	swap = func(n int) {
		if n == len(l) {
			s := some(t, "by a Sync")
			s.start(fmt.Sprint("Start of ", l), l...)
			s.wantKept(fmt.Sprint("Start of ", l), true, true, true, true, false)
		}
		for i := n; i < len(l); i++ {
			l[n], l[i] = l[i], l[n]
			swap(n + 1)
			l[n], l[i] = l[i], l[n]
		}
	}
	swap(0)
}

// TestStartMakesSafe: PG3, all is safe behind it: what is kept is not lost any more, and what is lost does not come back.
func TestStartMakesSafe(t *testing.T) {
	for _, crash := range crashes() {
		s := some(t, crash)
		s.start(crash, 1, 2)
		for _, keep := range [][]int{nil, {0, 1, 2, 3, 4}, {0}, nil} {
			s.start(crash, keep...)
			s.wantKept(crash, false, true, true, false, false)
		}
		s.write(crash, 0, "anew", 0)
		s.start(crash)
		s.wantKept(crash, false, true, true, false, false)
		s.sync(crash, 0)
		s.wantKept(crash, false, true, true, false, false)
	}
}

// TestStartNumbers: PG3, numbers go from 0 on behind each Sync and each Start, and not behind a Sync that crashed.
func TestStartNumbers(t *testing.T) {
	s := newSite(t, 2)
	s.write("first", 0, "first", 0)
	s.sync("Sync", 0)
	s.write("second", 0, "second", 0)
	s.write("third", 0, "third", 0)
	s.start("Start of the first one", 0)
	s.page("Start of the first one", 0, "second")
	s.write("fourth", 0, "fourth", 0)
	s.write("fifth", 0, "fifth", 0)
	s.start("Start of the first one", 0)
	s.page("Start of the first one", 0, "fourth")
	s.write("sixth", 0, "sixth", 0)
	s.arm("Arm", 0, 0)
	s.sync("Sync", api.ErrDown)
	s.start("Start of none", 1)
	s.page("Start of none", 0, "fourth")
	s.write("seventh", 0, "seventh", 0)
	s.arm("Arm", 0, 0)
	s.write("eighth", 1, "eighth", api.ErrDown)
	s.start("Start of the second one", 1)
	s.page("Start of the second one", 0, "fourth")
	s.page("Start of the second one", 1, "eighth")
}

// TestStartEndsArm: PG2 and PG3, the store is not armed behind it, whether it has crashed or not, and however many steps were left; it may be armed anew.
func TestStartEndsArm(t *testing.T) {
	for steps := range 4 {
		for taken := range steps + 2 {
			what := fmt.Sprint("Arm of ", steps, ", ", taken, " steps")
			s := newSite(t, 2)
			s.arm(what, steps, 0)
			for i := range min(taken, steps) {
				s.write(what, i%2, fmt.Sprint(i), 0)
			}
			if taken > steps {
				s.sync(what, api.ErrDown)
			}
			s.start(what, 1)
			for i := range 6 {
				s.take(what, rune("ws"[i%2]), i, 0)
			}
			s.arm(what, 1, 0)
			s.sync(what, 0)
			s.write(what, 0, "anew", api.ErrDown)
		}
	}
}

// TestStartOfNothing: PG3, where nothing is loose nothing is lost, whatever is told.
func TestStartOfNothing(t *testing.T) {
	for _, keep := range [][]int{nil, {}, {0}, {-1}, {0, 1, 2}} {
		s := newSite(t, 2)
		s.start("a new one", keep...)
		s.write("safe", 1, "safe", 0)
		s.sync("safe", 0)
		s.start("all is safe", keep...)
		s.page("all is safe", 1, "safe")
		s.arm("Arm", 0, 0)
		s.sync("crash", api.ErrDown)
		s.start("crashed", keep...)
		s.page("crashed", 1, "safe")
	}
}

// TestNil: PG3, a nil store answers ErrArg ahead of all other errors, and nothing.
func TestNil(t *testing.T) {
	var s *pages.Store
	for _, page := range []int{0, -1, 1, math.MinInt, math.MaxInt} {
		b, err := s.Read(page)
		wantErr(t, "Read", err, api.ErrArg)
		if b != nil {
			t.Errorf("Read: %q", b)
		}
		for _, n := range []int{0, 1, api.PageSize + 1} {
			wantErr(t, "Write", s.Write(page, make([]byte, n)), api.ErrArg)
		}
		wantErr(t, "Arm", s.Arm(page), api.ErrArg)
	}
	wantErr(t, "Sync", s.Sync(), api.ErrArg)
	for _, keep := range [][]int{nil, {0}, {-1, 5}} {
		s.Start(keep)
	}
	if s.Pages() != 0 || s.Loose() != 0 || s.Down() {
		t.Errorf("%d pages, %d loose, down %v", s.Pages(), s.Loose(), s.Down())
	}
}

// dice are numbers that follow from one another, so that a test does the same each time.
type dice uint64

// next is a number below n.
func (d *dice) next(n int) int {
	*d = *d*6364136223846793005 + 1442695040888963407
	return int(uint64(*d)>>33) % n
}

// stays is what PG4 asks for: what each page was as it was safe last, whether something was written to it since, and all that was ever written to it.
type stays struct {
	safe  []string
	since []int
	ever  []map[string]struct{}
}

// newStays is that of a new store: every page is empty.
func newStays(n int) *stays {
	l := &stays{safe: make([]string, n), since: make([]int, n)}
	for range n {
		l.ever = append(l.ever, map[string]struct{}{"": {}})
	}
	return l
}

// look reads all pages of a store that has begun again, or was made safe: those to which nothing was written are as they were, and each is one that was written to it.
func (l *stays) look(t *testing.T, what string, s *pages.Store) {
	t.Helper()
	for page := range l.safe {
		b, err := s.Read(page)
		wantErr(t, what, err, 0)
		if _, was := l.ever[page][string(b)]; !was {
			t.Fatalf("%s: page %d is %q, which was never written to it", what, page, b)
		}
		if l.since[page] == 0 && string(b) != l.safe[page] {
			t.Fatalf("%s: page %d is %q, was %q, and nothing was written to it", what, page, b, l.safe[page])
		}
		l.safe[page], l.since[page] = string(b), 0
	}
}

// TestStays: PG4, a page to which nothing was written since the last Sync stays, whatever is lost; a page is always one that was written to it, or the empty one.
func TestStays(t *testing.T) {
	for seed := range 300 {
		d := dice(seed)
		n := 1 + d.next(8)
		s, l := newStore(t, n), newStays(n)
		for i := range 200 {
			what := fmt.Sprint("seed ", seed, ", step ", i)
			switch d.next(8) {
			case 0:
				if s.Sync() == nil {
					l.look(t, what+": Sync", s)
				}
			case 1:
				wantErr(t, what, s.Arm(d.next(9)), 0)
			case 2:
				s.Start(d.some(s.Loose()))
				l.look(t, what+": Start", s)
			default:
				page, text := d.next(n), fmt.Sprint(d.next(1000))
				if was := s.Down(); s.Write(page, []byte(text)) == nil || !was {
					l.since[page]++
					l.ever[page][text] = struct{}{}
				}
			}
		}
	}
}

// some are some of so many numbers, and others.
func (d *dice) some(n int) []int {
	var l []int
	for range d.next(n + 2) {
		l = append(l, d.next(n+3)-1)
	}
	return l
}

// TestMemoryIn: rule 3, bytes that are written are not changed and not kept, spare room neither: who changes them later changes no page, loose, safe or kept; nor does a store that goes on.
func TestMemoryIn(t *testing.T) {
	for _, n := range []int{0, 1, 7, 100, api.PageSize} {
		all := bytes.Repeat([]byte("a"), n+20)
		b := all[5 : n+5]
		s := newSite(t, 2)
		s.write("ahead", 0, "ahead", 0)
		for _, do := range []func(what string){
			func(what string) {},
			func(what string) { s.sync(what, 0) },
			func(what string) { s.start(what, 0, 1) },
			func(what string) { s.arm(what, 0, 0); s.sync(what, api.ErrDown); s.start(what, 0, 1) },
		} {
			what := fmt.Sprint(n, " bytes")
			wantErr(t, what, s.s.Write(1, b), 0)
			s.plain.write(1, strings.Repeat("a", n))
			for i, c := range all {
				if c != 'a' {
					t.Fatalf("%s: Write has changed its argument at %d", what, i)
				}
				all[i] = 'x'
			}
			s.page(what+", overwritten", 1, strings.Repeat("a", n))
			do(what)
			s.page(what+", overwritten, behind it", 1, strings.Repeat("a", n))
			copy(all, bytes.Repeat([]byte("a"), len(all)))
			s.write(what, 1, "other", 0)
			s.sync(what, 0)
			if !bytes.Equal(all, bytes.Repeat([]byte("a"), len(all))) {
				t.Errorf("%s: a later Write has changed an earlier argument", what)
			}
		}
	}
}

// TestMemoryCrash: rule 3 and PG2, so it is for the Write that crashes.
func TestMemoryCrash(t *testing.T) {
	s := newSite(t, 1)
	s.arm("Arm", 0, 0)
	b := []byte("abc")
	wantErr(t, "crash", s.s.Write(0, b), api.ErrDown)
	s.plain.write(0, "abc")
	copy(b, "xyz")
	s.start("Start", 0)
	s.page("Start", 0, "abc")
}

// TestMemoryShared: rule 3, the same bytes written to two pages, and twice to one, are each page's own.
func TestMemoryShared(t *testing.T) {
	s := newStore(t, 3)
	b := []byte("abc")
	for _, page := range []int{0, 1, 1} {
		wantErr(t, "Write", s.Write(page, b), 0)
	}
	for _, safe := range []bool{false, true} {
		for _, page := range []int{0, 1} {
			got, _ := s.Read(page)
			overwrite(got)
		}
		for _, page := range []int{0, 1} {
			if got, err := s.Read(page); string(got) != "abc" || err != nil {
				t.Errorf("safe %v: page %d is %q, %v", safe, page, got, err)
			}
		}
		wantErr(t, "Sync", s.Sync(), 0)
	}
}

// overwrite overwrites bytes and their spare room.
func overwrite(b []byte) {
	b = b[:cap(b)]
	for i := range b {
		b[i] = '!'
	}
}

// TestMemoryOut: rule 3, who overwrites what Read told, or its spare room, changes no page, and no other answer; and what was told stays, whatever is written later.
func TestMemoryOut(t *testing.T) {
	for _, n := range []int{0, 1, 7, 33, 100, api.PageSize} {
		want := strings.Repeat("a", n)
		s := newSite(t, 2)
		s.write("ahead", 1, want, 0)
		for _, do := range []func(what string){
			func(what string) {},
			func(what string) { s.sync(what, 0) },
			func(what string) { s.write(what, 1, want, 0); s.start(what, 0) },
		} {
			what := fmt.Sprint(n, " bytes")
			do(what)
			first, _ := s.s.Read(1)
			second, _ := s.s.Read(1)
			overwrite(first)
			s.page(what+", overwritten", 1, want)
			if string(second) != want {
				t.Errorf("%s: another answer has changed: %q", what, short(string(second)))
			}
			s.sync(what, 0)
			s.start(what)
			s.page(what+", overwritten, behind it", 1, want)
			s.write(what, 1, strings.Repeat("z", n), 0)
			s.sync(what, 0)
			if string(second) != want {
				t.Errorf("%s: an answer has changed behind a Write: %q", what, short(string(second)))
			}
			s.write(what, 1, want, 0)
		}
	}
}

// TestMemoryKeep: rule 3, the numbers that Start is told are not changed, and not kept.
func TestMemoryKeep(t *testing.T) {
	s := some(t, "by a Sync")
	all := []int{7, 3, 1, 3, -1, 9, 7, 7}
	keep := all[1:6]
	s.start("Start", keep...)
	if !slices.Equal(all, []int{7, 3, 1, 3, -1, 9, 7, 7}) {
		t.Errorf("Start has changed its argument: %v", all)
	}
	for i := range all {
		all[i] = 0
	}
	s.wantKept("overwritten", false, true, false, true, false)
}

// TestAskingChangesNothing: rule 4, what is asked leaves nothing, and the same answer comes again.
func TestAskingChangesNothing(t *testing.T) {
	for _, crash := range crashes() {
		s := some(t, crash)
		for range 3 {
			s.noStep(crash)
			s.loose(crash, 5)
			for page := range 5 {
				a, no := s.s.Read(page)
				b, again := s.s.Read(page)
				if !bytes.Equal(a, b) || number(no) != number(again) {
					t.Errorf("%s: page %d: %q, %v and then %q, %v", crash, page, a, no, b, again)
				}
			}
		}
		s.start(crash, 0)
		s.wantKept(crash, true, false, false, false, false)
	}
}

// TestMany: rule 1, calls end at once, where there are as many pages as can be, all full, many writes are loose, and many numbers are told.
func TestMany(t *testing.T) {
	s := newStore(t, api.MaxList)
	full := bytes.Repeat([]byte("f"), api.PageSize)
	for page := range api.MaxList {
		wantErr(t, "full", s.Write(page, full), 0)
	}
	wantErr(t, "full", s.Sync(), 0)
	var keep []int
	for n := range 200000 {
		wantErr(t, "many", s.Write(n%2, []byte(fmt.Sprint(n))), 0)
		keep = append(keep, 200000-n, n)
	}
	for range 200 {
		if b, err := s.Read(2); len(b) != api.PageSize || err != nil {
			t.Fatalf("page 2: %d bytes, %v", len(b), err)
		}
	}
	s.Start(keep)
	for page, want := range []string{"199998", "199999"} {
		if b, err := s.Read(page); string(b) != want || err != nil {
			t.Errorf("page %d: %q, %v", page, b, err)
		}
	}
	for n := range 100000 {
		wantErr(t, "one by one", s.Write(n%api.MaxList, []byte{byte(n)}), 0)
		wantErr(t, "one by one", s.Sync(), 0)
	}
}

// FuzzStore: PG1 to PG4, a store to which is written, which is made safe, armed and begun again, in any order, is the plain one. Three bytes are a step.
func FuzzStore(f *testing.F) {
	f.Add([]byte{})
	f.Add([]byte{0, 1, 'a', 0, 1, 'b', 7, 1, 0})
	f.Add([]byte{0, 1, 'a', 4, 0, 0, 5, 1, 0, 0, 1, 'b', 0, 2, 'c', 7, 255, 0, 0, 0, 'd', 4, 0, 0})
	f.Add([]byte{0, 0, 'a', 5, 0, 0, 4, 0, 0, 0, 0, 'b', 6, 0, 3, 7, 3, 9, 4, 0, 0, 0, 9, 'c', 1, 0, 200})
	f.Fuzz(func(t *testing.T, steps []byte) {
		n := 1 + len(steps)%5
		s, p := newStore(t, n), &plain{pages: n}
		for len(steps) >= 3 {
			kind, a, b := steps[0]%8, int(steps[1]), int(steps[2])
			steps = steps[3:]
			what := fmt.Sprint("step ", kind, " ", a, " ", b)
			switch kind {
			default:
				page, text := a%(n+2)-1, strings.Repeat(string(rune(b)), b%7)
				wantErr(t, what, s.Write(page, []byte(text)), p.write(page, text))
			case 3:
				page, text := a%(n+2)-1, strings.Repeat("x", api.PageSize-1+b%3)
				wantErr(t, what, s.Write(page, []byte(text)), p.write(page, text))
			case 4, 5:
				wantErr(t, what, s.Sync(), p.sync())
			case 6:
				wantErr(t, what, s.Arm(a%6-1), p.arm(a%6-1))
			case 7:
				var keep []int
				for n := range 8 {
					if a>>n&1 == 1 {
						keep = append(keep, (n+b)%11-1)
					}
				}
				s.Start(keep)
				p.start(keep)
			}
			p.check(t, what, s)
		}
	})
}
