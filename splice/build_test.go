package splice_test

import (
	"fmt"
	"math"
	"slices"
	"strings"
	"testing"

	"bayou/api"
	"bayou/build"
	"bayou/splice"
	"bayou/state"
	"bayou/tx"
)

// gained is what a side brings and takes, and what it gains then.
type gained struct {
	brings, takes []int
	gain          int
	no            api.Errno
}

// gainRows are told by hand: nothing, coins alone, outputs alone, both, bounds, and amounts that no call lets by, but who makes a deal by hand.
func gainRows() []gained {
	const half = 1 << 62
	over := api.ErrOver
	return []gained{
		{nil, nil, 0, 0}, {[]int{20}, nil, 20, 0}, {[]int{20, 30}, nil, 50, 0}, {nil, []int{12}, -12, 0}, {nil, []int{15, 11}, -26, 0},
		{[]int{20, 30}, []int{12}, 38, 0}, {[]int{40}, []int{15, 11}, 14, 0}, {[]int{40}, []int{40}, 0, 0}, {[]int{10}, []int{40}, -30, 0},
		{many(30, 10), nil, 300, 0}, {nil, many(30, 10), -300, 0}, {many(30, 11), many(30, 10), 30, 0},
		{[]int{maxAmount}, nil, maxAmount, 0}, {nil, []int{maxAmount}, -maxAmount, 0}, {[]int{maxAmount}, []int{maxAmount}, 0, 0},
		{[]int{maxAmount - 10, 10}, nil, maxAmount, 0}, {nil, []int{10, maxAmount - 10}, -maxAmount, 0}, {[]int{maxAmount}, []int{10}, maxAmount - 10, 0},
		{[]int{maxAmount - 10, 11}, nil, 0, over}, {nil, []int{11, maxAmount - 10}, 0, over}, {[]int{maxAmount + 1}, nil, 0, over}, {nil, []int{maxAmount + 1}, 0, over},
		{[]int{maxAmount + 1}, []int{maxAmount}, 0, over}, {[]int{maxAmount}, []int{maxAmount + 1}, 0, over}, {[]int{maxAmount + 1}, []int{maxAmount + 1}, 0, over},
		{many(30, maxAmount), nil, 0, over}, {nil, many(30, maxAmount), 0, over}, {many(30, maxAmount), many(30, maxAmount), 0, over},
		{many(1<<13, maxAmount), nil, 0, over}, {many(1<<14, maxAmount), nil, 0, over}, {nil, many(1<<14, maxAmount), 0, over}, {append(many(1<<14, maxAmount), 10), nil, 0, over},
		{[]int{math.MaxInt}, nil, 0, over}, {[]int{math.MaxInt, 1}, nil, 0, over}, {[]int{math.MaxInt, math.MaxInt, 12}, nil, 0, over}, {nil, []int{math.MaxInt, math.MaxInt, 12}, 0, over},
		{[]int{half, half, half, half}, nil, 0, over}, {[]int{half, half, half, half, 10}, nil, 0, over}, {nil, []int{half, half, half, half, 10}, 0, over}, {[]int{half, half}, []int{half, half}, 0, over},
		{[]int{0}, []int{0, 0}, 0, 0}, {[]int{-5}, nil, -5, 0}, {nil, []int{-5}, 5, 0}, {[]int{-5, 20}, []int{-7, 12}, 10, 0}, {[]int{-5}, []int{-7}, 2, 0},
		{[]int{maxAmount + 7, -7}, nil, maxAmount, 0}, {[]int{-7, maxAmount + 7}, nil, maxAmount, 0}, {[]int{maxAmount + 8, -7}, nil, 0, over}, {nil, []int{-7, maxAmount + 8}, 0, over}, {nil, []int{-7, maxAmount + 7}, -maxAmount, 0},
		{[]int{maxAmount}, []int{-maxAmount}, 2 * maxAmount, 0}, {[]int{-maxAmount}, []int{maxAmount}, -2 * maxAmount, 0}, {[]int{maxAmount + 1}, []int{-maxAmount}, 0, over},
		{[]int{math.MaxInt, -math.MaxInt}, nil, 0, 0}, {[]int{math.MinInt, math.MaxInt}, []int{math.MaxInt, math.MinInt}, 0, 0}, {[]int{half, half, half, half, -half, -half, -half, -half, 10}, nil, 10, 0},
		{[]int{math.MinInt}, nil, math.MinInt, 0}, {[]int{math.MinInt, 10}, nil, math.MinInt + 10, 0}, {[]int{math.MinInt, 10}, []int{10}, math.MinInt, 0}, {[]int{math.MinInt}, []int{-1}, math.MinInt + 1, 0},
		{[]int{math.MinInt}, []int{1}, math.MinInt, 0}, {[]int{math.MinInt, -1}, nil, math.MinInt, 0}, {many(1000, math.MinInt), nil, math.MinInt, 0}, {[]int{math.MinInt}, []int{maxAmount}, math.MinInt, 0},
		{nil, []int{-math.MaxInt}, math.MaxInt, 0}, {nil, []int{math.MinInt}, math.MaxInt, 0}, {[]int{1}, []int{-math.MaxInt}, math.MaxInt, 0}, {nil, many(1000, math.MinInt), math.MaxInt, 0}, {[]int{-1}, []int{math.MinInt}, math.MaxInt, 0}, {[]int{-2}, []int{math.MinInt}, math.MaxInt - 1, 0},
		{many(1000, math.MinInt), append(many(1000, math.MinInt), -3), 3, 0}, {append(many(1000, math.MinInt), -3), many(1000, math.MinInt), -3, 0}, {many(1000, math.MinInt), append(many(1000, math.MinInt), 5), -5, 0},
		{append(many(1000, math.MinInt), many(1001, math.MaxInt)...), nil, 0, over}, {append(many(1000, math.MinInt), append(many(1000, math.MaxInt), 1007)...), nil, 7, 0},
	}
}

// deal is a deal made by hand of a state, and of what both sides bring and take; both are ready.
func deal(s state.State, fee int, brings, takes [2][]int) splice.Deal {
	d := splice.Deal{Params: params(s, fee), State: s, Ready: [2]bool{true, true}}
	for side := range 2 {
		d.Ins[side], d.Outs[side] = coins(byte(20+side), brings[side]...), outs(takes[side]...)
	}
	return d
}

// SP2: Gain of each side, told by hand, whatever the other side does and whoever is ready; of who is no side there is none.
func TestGain(t *testing.T) {
	for i, x := range gainRows() {
		for side := range 2 {
			var brings, takes [2][]int
			brings[side], takes[side] = x.brings, x.takes
			brings[1-side], takes[1-side] = [][]int{nil, {7}, {maxAmount + 1}}[i%3], [][]int{nil, {9}, {math.MinInt}, {maxAmount + 3}}[i%4]
			d := deal(state.State{}, 0, brings, takes)
			d.Ready = [2]bool{i%2 == 0, i%3 == 0}
			what := fmt.Sprint("the row ", i, " of side ", side)
			for range 2 {
				gain, err := splice.Gain(d, side)
				want(t, what, gain, err, x.gain, x.no)
			}
			n, no := plainGain(d, side)
			want(t, what+", plainly", inInt(n), nil, x.gain, 0)
			if no != x.no {
				t.Errorf("%s: plainly %d", what, no)
			}
			for _, none := range sides()[2:] {
				gain, err := splice.Gain(d, none)
				want(t, fmt.Sprint(what, ": Gain of ", none), gain, err, 0, api.ErrParty)
			}
		}
	}
}

// SP2: Gain of the zero deal, and of a deal whose Params and State can't be.
func TestGainByHand(t *testing.T) {
	for side := range 2 {
		gain, err := splice.Gain(splice.Deal{}, side)
		want(t, "the zero deal", gain, err, 0, 0)
	}
	checkFaults(0).each(t, base, func(s scene, no api.Errno) {
		for side, wanted := range []int{38, 14} {
			gain, err := splice.Gain(s.d, side)
			want(t, s.what, gain, err, wanted, 0)
		}
	})
}

// wantText holds a transaction against one that is written by hand.
func wantText(t *testing.T, what string, got tx.Tx, lines ...string) {
	t.Helper()
	if want := strings.Join(lines, "\n") + "\n"; told(got) != want {
		t.Errorf("%s:\n%swant\n%s", what, told(got), want)
	}
}

// The example of the chapter: has 50, 50, Fee 5; side 1 brings 20: 45, 70.
func TestExample(t *testing.T) {
	p := build.Params{Point: point(9, 3), Amount: 100, Keys: [2]int{1, 2}, Delay: 3, Fee: 5}
	d, err := splice.New(p, state.State{Has: [2]int{50, 50}})
	wantErr(t, "New", err, 0)
	d, err = splice.Bring(d, 1, coin(1, 3, 20))
	wantErr(t, "Bring", err, 0)
	for side := range 2 {
		_, _, _, err = splice.Build(d)
		wantErr(t, "Build ahead of both", err, api.ErrState)
		d, err = splice.Close(d, side)
		wantErr(t, "Close", err, 0)
	}
	got, err := buildOf(d)
	wantErr(t, "Build", err, 0)
	wantText(t, "the transaction", got.t, "lock 0", `in 09:3 by 0 ""`, `in 01:3 by 0 ""`, "out 115 | [1 2]")
	want(t, "the state", got.s, nil, state.State{Number: 1, Has: [2]int{45, 70}}, 0)
	want(t, "the params", got.p, nil, build.Params{Point: tx.Point{Tx: tx.ID(got.t)}, Amount: 115, Keys: [2]int{1, 2}, Delay: 3, Fee: 5}, 0)
}

// SP2: Build, word by word, of what both sides bring and take, by either order of the keys; payments and holds stay.
func TestBuild(t *testing.T) {
	for i, keys := range [][2]int{{7, 3}, {3, 7}} {
		s := closed()
		s.d.Params.Keys = keys
		s.try(t)
		got, err := buildOf(s.d)
		wantErr(t, "Build", err, 0)
		wantText(t, fmt.Sprint("the transaction ", i), got.t, "lock 0",
			`in 09:3 by 0 ""`, `in 01:0 by 0 ""`, `in 02:63 by 0 ""`, `in 03:1 by 0 ""`,
			"out 247 | [3 7]", "out 12 | [1] | [1 4] lock 08 after 9 older 10", "out 15 | [1] | [2 5]", "out 11 | [2]")
		wanted := full()
		wanted.Number, wanted.Has = 12, [2]int{83, 74}
		want(t, "the state", got.s, nil, wanted, 0)
		want(t, "the params", got.p, nil, build.Params{Point: tx.Point{Tx: tx.ID(got.t)}, Amount: 247, Keys: keys, Delay: 5, Fee: 5}, 0)
		again, err := buildOf(s.d)
		want(t, "Build again", again, err, got, 0)
	}
}

// SP2: Build with 0, 1 and 30 coins and outputs of each side: they stand in their order, side 0 first.
func TestBuildMany(t *testing.T) {
	counts := []int{0, 1, 30}
	for mix := range 81 {
		var n [4]int
		for i, rest := 0, mix; i < 4; i, rest = i+1, rest/3 {
			n[i] = counts[rest%3]
		}
		s := closed()
		s.what = fmt.Sprint("coins and outputs ", n)
		s.d.State.Has, s.d.Params.Amount = [2]int{2000, 3000}, 5090
		for side := range 2 {
			s.d.Ins[side], s.d.Outs[side] = nil, nil
			for i := range n[side] {
				s.d.Ins[side] = append(s.d.Ins[side], coin(byte(50-side), 40-i, 20+i))
			}
			for i := range n[2+side] {
				s.d.Outs[side] = append(s.d.Outs[side], out(50-i+side, []int{i % 16}))
			}
		}
		s.try(t)
		got, err := buildOf(s.d)
		wantErr(t, s.what, err, 0)
		if len(got.t.Ins) != 1+n[0]+n[1] || len(got.t.Outs) != 1+n[2]+n[3] {
			t.Fatalf("%s: %s", s.what, told(got.t))
		}
		for side, first := range []int{1, 1 + n[0]} {
			for i := range n[side] {
				if in := got.t.Ins[first+i]; in.Point != point(byte(50-side), 40-i) || in.Branch != 0 || len(in.Secret) != 0 {
					t.Errorf("%s: the coin %d of side %d: %v", s.what, i, side, in)
				}
			}
		}
		for side, first := range []int{1, 1 + n[2]} {
			for i := range n[2+side] {
				want(t, s.what, got.t.Outs[first+i], nil, out(50-i+side, []int{i % 16}), 0)
			}
		}
	}
}

// stateFaults are those of Build up to the new state, in its order.
func stateFaults() faults {
	var l faults
	for _, ready := range [][2]bool{{}, {true, false}, {false, true}} {
		l.add(0, api.ErrState, "Ready", fmt.Sprint("Ready ", ready), func(s *scene) { s.d.Ready = ready })
	}
	l = append(l, checkFaults(1)...)
	over := func(side int, what string, amounts []int, takes bool) {
		l.add(5+side, api.ErrOver, fmt.Sprint("gain ", side), fmt.Sprint("side ", side, " ", what), func(s *scene) {
			if takes {
				s.d.Outs[side] = append(s.d.Outs[side], outs(amounts...)...)
			} else {
				s.d.Ins[side] = append(s.d.Ins[side], coins(byte(60+side), amounts...)...)
			}
		})
	}
	for side := range 2 {
		over(side, "brings more than MaxAmount", []int{maxAmount - 10}, false)
		over(side, "brings more than an int", []int{math.MaxInt, math.MaxInt}, false)
		over(side, "takes more than MaxAmount", []int{maxAmount - 10}, true)
	}
	l.numbers(7, api.ErrArg, "Number", func(s *scene) *int { return &s.d.State.Number }, maxHeight)
	l.numbers(9, api.ErrArg, "Number", func(s *scene) *int { return &s.d.State.Number }, maxHeight-1)
	for side, least := range []int{84, 75} {
		for _, n := range []int{least, least + 1, 1000, maxAmount - 50} {
			l.add(8+2*side, api.ErrFunds, fmt.Sprint("gain ", side), fmt.Sprint("side ", side, " takes ", n, " more"), func(s *scene) { s.d.Outs[side] = append(s.d.Outs[side], out(n, []int{1})) })
		}
		for _, n := range []int{math.MinInt, -1 << 62, -1000} {
			l.add(8+2*side, api.ErrFunds, fmt.Sprint("gain ", side), fmt.Sprint("side ", side, " brings ", n), func(s *scene) { s.d.Ins[side] = coins(70, n) })
		}
		l.add(8+2*side, api.ErrOver, fmt.Sprint("gain ", side), fmt.Sprint("side ", side, " brings MaxAmount"), func(s *scene) { s.d.Ins[side] = coins(70, maxAmount) })
		for _, n := range []int{-maxAmount, -1 << 62, math.MinInt} {
			l.add(8+2*side, api.ErrOver, fmt.Sprint("gain ", side), fmt.Sprint("side ", side, " takes ", n), func(s *scene) { s.d.Outs[side] = outs(n) })
		}
	}
	return l
}

// txFaults are those of Build behind the new state: the transaction's, in tx.Check's order, and those of the new params.
func txFaults() faults {
	var l faults
	l.numbers(11, api.ErrRange, "Point", func(s *scene) *int { return &s.d.Params.Point.N }, -1, maxIO, math.MinInt, math.MaxInt)
	for side := range 2 {
		for _, n := range []int{-1, maxIO, math.MaxInt} {
			l.add(11, api.ErrRange, fmt.Sprint("coin ", side), fmt.Sprint("a coin ", n, " of side ", side), func(s *scene) { s.d.Ins[side] = append(s.d.Ins[side], coin(80, n, 0)) })
		}
		l.add(11, api.ErrRange, fmt.Sprint("coin ", side), fmt.Sprint("too many coins of side ", side), func(s *scene) { s.d.Ins[side] = append(s.d.Ins[side], coins(81, many(61, 0)...)...) })
		l.add(11, api.ErrRange, fmt.Sprint("output ", side), fmt.Sprint("too many outputs of side ", side), func(s *scene) { s.d.Outs[side] = append(outs(many(61, 0)...), s.d.Outs[side]...) })
		for _, p := range []tx.Point{point(1, 0), point(2, 63), point(3, 1)} {
			l.add(12, api.ErrTwice, fmt.Sprint("coin ", side), fmt.Sprint("the coin ", p, " of side ", side, ", too"), func(s *scene) { s.d.Ins[side] = append([]splice.Coin{{Point: p}}, s.d.Ins[side]...) })
		}
		l.add(12, api.ErrTwice, fmt.Sprint("coin ", side), fmt.Sprint("the channel's point of side ", side, ", too"), func(s *scene) { s.d.Ins[side] = append(s.d.Ins[side], splice.Coin{Point: base().d.Params.Point}) })
		bad := func(no api.Errno, outs ...tx.Out) {
			for i, o := range outs {
				what := fmt.Sprint("the output ", i, " of side ", side, " of the error ", int(no))
				l.add(13+side, no, fmt.Sprint("output ", side), what, func(s *scene) {
					s.d.Outs[side] = append([]tx.Out{cloneOut(o)}, s.d.Outs[side]...)
					s.d.Ins[side] = append(s.d.Ins[side], coin(byte(82+side), 0, o.Amount)) // so that the side gains as much as ahead
				})
			}
		}
		bad(api.ErrDust, out(9, []int{1}), out(0, []int{1}), out(-1, []int{1}), out(0))
		bad(api.ErrArg, out(10), out(10, nil), out(10, []int{16}), out(10, []int{2, 1}), out(10, slices.Repeat([][]int{{1}}, 9)...))
	}
	return l
}

// feeFaults are those of the new params, which come last: side 0 has less than Fee then.
func feeFaults() faults {
	var l faults
	for _, n := range []int{79, 80, 83} {
		l.add(15, api.ErrFee, "gain 0", fmt.Sprint("side 0 takes ", n, " more"), func(s *scene) { s.d.Outs[0] = append(s.d.Outs[0], out(n, []int{1})) })
	}
	return l
}

// SP2: each error of Build alone, and each two at once: the transaction's ahead of that of the new params.
func TestBuildFaults(t *testing.T) {
	slices.Concat(stateFaults(), txFaults(), feeFaults()).each(t, closed, func(s scene, no api.Errno) {
		_, err := buildOf(s.d)
		wantErr(t, s.what, err, no)
	})
}

// two are the sides' lists of numbers.
func two(zero, one []int) [2][]int { return [2][]int{zero, one} }

// has is a state of a number in which both sides have so much, and nothing waits.
func has(n, zero, one int) state.State { return state.State{Number: n, Has: [2]int{zero, one}} }

// row is a deal, and what both sides have behind it.
type row struct {
	what string
	d    splice.Deal
	has  [2]int
	no   api.Errno
}

// holdRows holds Build against rows.
func holdRows(t *testing.T, l []row) {
	t.Helper()
	for _, x := range l {
		scene{what: x.what, d: x.d}.try(t)
		got, err := buildOf(x.d)
		want(t, x.what, got.s.Has, err, x.has, x.no)
	}
}

// SP2: what both sides have behind the deal, at the bounds: nothing, Fee, MaxAmount, each told by hand.
func TestBuildBounds(t *testing.T) {
	var none [2][]int
	const m = maxAmount
	holdRows(t, []row{
		{"nothing is brought or taken", deal(has(3, 50, 60), 5, none, none), [2]int{45, 60}, 0},
		{"nothing, without a fee", deal(has(3, 50, 60), 0, none, none), [2]int{50, 60}, 0},
		{"side 0 has Fee behind it", deal(has(3, 10, 60), 5, none, none), [2]int{5, 60}, 0},
		{"one less", deal(has(3, 9, 60), 5, none, none), [2]int{}, api.ErrFee},
		{"nothing", deal(has(3, 5, 60), 5, none, none), [2]int{}, api.ErrFee},
		{"nothing, without a fee", deal(has(3, 0, 60), 0, none, none), [2]int{0, 60}, 0},
		{"it brings what is missing", deal(has(3, 5, 60), 5, two([]int{10}, nil), none), [2]int{10, 60}, 0},
		{"it takes all but Fee", deal(has(3, 50, 60), 5, none, two([]int{40}, nil)), [2]int{5, 60}, 0},
		{"it takes one more", deal(has(3, 50, 60), 5, none, two([]int{41}, nil)), [2]int{}, api.ErrFee},
		{"it takes all behind the fee", deal(has(3, 50, 60), 5, none, two([]int{45}, nil)), [2]int{}, api.ErrFee},
		{"it takes all", deal(has(3, 50, 60), 5, none, two([]int{46}, nil)), [2]int{}, api.ErrFunds},
		{"it takes all, without a fee", deal(has(3, 50, 60), 0, none, two([]int{50}, nil)), [2]int{0, 60}, 0},
		{"and one more", deal(has(3, 50, 60), 0, none, two([]int{51}, nil)), [2]int{}, api.ErrFunds},
		{"side 1 takes all", deal(has(3, 50, 60), 5, none, two(nil, []int{60})), [2]int{45, 0}, 0},
		{"and one more", deal(has(3, 50, 60), 5, none, two(nil, []int{61})), [2]int{}, api.ErrFunds},
		{"and brings it", deal(has(3, 50, 60), 5, two(nil, []int{20}), two(nil, []int{80})), [2]int{45, 0}, 0},
		{"both take too much", deal(has(3, 50, 60), 5, none, two([]int{46}, []int{61})), [2]int{}, api.ErrFunds},
		{"side 1 does not pay what side 0 takes", deal(has(3, 50, 60), 5, two(nil, []int{1000}), two([]int{46}, nil)), [2]int{}, api.ErrFunds},
		{"nor side 0 what side 1 takes", deal(has(3, 50, 60), 5, two([]int{1000}, nil), two(nil, []int{61})), [2]int{}, api.ErrFunds},
		{"nobody had anything", deal(has(3, 0, 0), 0, two([]int{30}, []int{40}), none), [2]int{30, 40}, 0},
		{"side 0 fills it", deal(has(3, 50, 60), 0, two([]int{m - 110}, nil), none), [2]int{m - 60, 60}, 0},
		{"side 0 fills it with a fee", deal(has(3, 50, 60), 5, two([]int{m - 105}, nil), none), [2]int{m - 60, 60}, 0},
		{"one more", deal(has(3, 50, 60), 5, two([]int{m - 104}, nil), none), [2]int{}, api.ErrOver},
		{"side 1 fills it", deal(has(3, 50, 60), 5, two(nil, []int{m - 105}), none), [2]int{45, m - 45}, 0},
		{"one more", deal(has(3, 50, 60), 5, two(nil, []int{m - 104}), none), [2]int{}, api.ErrOver},
		{"all that may be, twice", deal(has(3, 50, 60), 5, two([]int{m}, []int{m}), none), [2]int{}, api.ErrOver},
		{"side 0 has too much ahead of what side 1 takes", deal(has(3, 50, 60), 0, two([]int{m - 100}, nil), two(nil, []int{20})), [2]int{}, api.ErrOver},
		{"side 0 has too much ahead of what side 1 takes too much", deal(has(3, 50, 60), 0, two([]int{m - 100}, nil), two(nil, []int{70})), [2]int{}, api.ErrOver},
		{"all is the fee", deal(has(3, m, 0), m, two(nil, []int{m}), none), [2]int{}, api.ErrFee},
		{"all is the fee, twice", deal(has(3, m, 0), m, two([]int{m}, nil), none), [2]int{m, 0}, 0},
		{"all is the fee, and side 0 takes less than nothing", deal(has(3, m, 0), m, two([]int{math.MinInt}, nil), none), [2]int{}, api.ErrFunds},
		{"side 0 takes less than an int holds", deal(has(3, 50, 60), 5, none, two([]int{math.MinInt, -1}, nil)), [2]int{}, api.ErrOver},
		{"side 1, too", deal(has(3, 50, 60), 5, none, two(nil, []int{math.MinInt, -1})), [2]int{}, api.ErrOver},
	})
}

// SP2: the new state's number is one more than the old one's; both changes of it can be, or one, or none.
func TestBuildNumber(t *testing.T) {
	for _, n := range []int{0, 1, 11, 1 << 20, maxHeight - 3, maxHeight - 2} {
		s := closed()
		s.what, s.d.State.Number = fmt.Sprint("the number ", n), n
		s.try(t)
		got, err := buildOf(s.d)
		want(t, s.what, got.s.Number, err, n+1, 0)
	}
	for _, n := range []int{maxHeight - 1, maxHeight} {
		s := closed()
		s.what, s.d.State.Number = fmt.Sprint("the number ", n), n
		s.try(t)
		_, err := buildOf(s.d)
		wantErr(t, s.what, err, api.ErrArg)
	}
}

// SP2: the transaction's errors where what is together is at a bound, ahead of the new params' error, and outputs one by one.
func TestBuildTransaction(t *testing.T) {
	var none [2][]int
	const m = maxAmount
	holdRows(t, []row{
		{"a channel of Dust", deal(has(3, 4, 6), 0, none, none), [2]int{4, 6}, 0},
		{"one below", deal(has(3, 4, 5), 0, none, none), [2]int{}, api.ErrDust},
		{"of nothing", deal(has(3, 0, 0), 0, none, none), [2]int{}, api.ErrDust},
		{"of nothing behind the fee", deal(has(3, 5, 0), 5, none, none), [2]int{}, api.ErrDust},
		{"of 9, and side 0 has less than Fee", deal(has(3, 5, 9), 5, none, none), [2]int{}, api.ErrDust},
		{"of 10, and side 0 has less than Fee", deal(has(3, 5, 10), 5, none, none), [2]int{}, api.ErrFee},
		{"all is taken", deal(has(3, 50, 60), 0, none, two([]int{50}, []int{60})), [2]int{}, api.ErrDust},
		{"all but Dust", deal(has(3, 50, 70), 0, none, two([]int{50}, []int{60})), [2]int{0, 10}, 0},
		{"MaxAmount together", deal(has(3, 50, 60), 5, two([]int{m - 105}, nil), two([]int{20}, nil)), [2]int{m - 80, 60}, 0},
		{"one more", deal(has(3, 50, 60), 5, two([]int{m - 104}, nil), two([]int{20}, nil)), [2]int{}, api.ErrOver},
		{"of side 1", deal(has(3, 50, 60), 5, two(nil, []int{m - 105}), two(nil, []int{20})), [2]int{45, m - 65}, 0},
		{"one more", deal(has(3, 50, 60), 5, two(nil, []int{m - 104}), two(nil, []int{20})), [2]int{}, api.ErrOver},
		{"MaxAmount together, and side 0 has less than Fee", deal(has(3, 50, 60), 5, two(nil, []int{m - 105}), two([]int{41}, nil)), [2]int{}, api.ErrFee},
		{"one more", deal(has(3, 50, 60), 5, two(nil, []int{m - 104}), two([]int{41}, nil)), [2]int{}, api.ErrOver},
		{"63 inputs beside the channel's", deal(has(3, 50, 60), 5, two(many(30, 10), many(33, 10)), none), [2]int{345, 390}, 0},
		{"one more", deal(has(3, 50, 60), 5, two(many(31, 10), many(33, 10)), none), [2]int{}, api.ErrRange},
		{"63 outputs beside the channel's", deal(has(3, 500, 600), 5, none, two(many(30, 10), many(33, 10))), [2]int{195, 270}, 0},
		{"one more", deal(has(3, 500, 600), 5, none, two(many(30, 10), many(34, 10))), [2]int{}, api.ErrRange},
		{"a great many", deal(has(3, 50, 60), 5, two(many(50000, 0), nil), two(many(50000, 0), many(50000, 0))), [2]int{}, api.ErrRange},
		{"an output above MaxAmount, and one below 0", deal(has(3, 50, 60), 5, none, two([]int{m + 5, -m}, nil)), [2]int{}, api.ErrOver},
		{"the other way round", deal(has(3, 50, 60), 5, none, two([]int{-m, m + 5}, nil)), [2]int{}, api.ErrDust},
		{"a channel too small ahead of an output above MaxAmount", deal(has(3, 9, 0), 0, none, two([]int{m + 5, -m - 5}, nil)), [2]int{}, api.ErrDust},
		{"an output of side 0 ahead of one of side 1", deal(has(3, 50, 60), 5, none, two([]int{9}, []int{m + 5, -m})), [2]int{}, api.ErrDust},
		{"and the other way round", deal(has(3, 50, 60), 5, none, two([]int{m + 5, -m}, []int{9})), [2]int{}, api.ErrOver},
		{"coins that nobody can have", deal(has(3, 50, 60), 5, two([]int{-3, 0, m + 9, -m}, []int{math.MinInt, math.MaxInt}), none), [2]int{51, 59}, 0},
	})
}

// SP2: Build asks for nothing that the channel's own output, or a coin, has: points of any transaction, and keys that neither side has.
func TestBuildPoints(t *testing.T) {
	for _, p := range []tx.Point{{}, {N: 63}, point(9, 0), {Tx: api.Hash{31: 255}, N: 63}} {
		s := closed()
		s.what, s.d.Params.Point = fmt.Sprint("the channel on ", p), p
		s.d.Ins[0] = append(s.d.Ins[0], splice.Coin{Point: tx.Point{Tx: p.Tx, N: p.N ^ 1}, Amount: 10})
		s.try(t)
		got, err := buildOf(s.d)
		wantErr(t, s.what, err, 0)
		if len(got.t.Ins) != 5 || got.t.Ins[0].Point != p || got.t.Ins[3].Point.N != p.N^1 {
			t.Errorf("%s: %s", s.what, told(got.t))
		}
	}
}
