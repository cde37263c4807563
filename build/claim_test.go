package build_test

import (
	"fmt"
	"math"
	"reflect"
	"slices"
	"testing"

	"bayou/api"
	"bayou/build"
	"bayou/cond"
	"bayou/tx"
)

// claim is what Claim is given.
type claim struct {
	t        tx.Tx
	uses     []build.Use
	who, fee int
}

// try holds Claim against what it must answer: its error here, and all of it.
func (c claim) try(t *testing.T, what string, no api.Errno) tx.Tx {
	t.Helper()
	ahead := claim{cloneTx(c.t), cloneUses(c.uses), c.who, c.fee}
	got, err := build.Claim(c.t, c.uses, c.who, c.fee)
	want, again := plainClaim(t, c.t, c.uses, c.who, c.fee)
	wantErr(t, what, err, no)
	wantTx(t, what, got, err, want, again)
	if !reflect.DeepEqual(c, ahead) {
		t.Errorf("%s: what was handed in was changed", what)
	}
	return got
}

// paying is a transaction with outputs of some amounts, which need not be one that may be.
func paying(amounts ...int) tx.Tx {
	x := tx.Tx{Lock: 4, Ins: []tx.In{{Point: point(3, 5), Branch: 2, Secret: []byte("shown")}}}
	for i, n := range amounts {
		x.Outs = append(x.Outs, tx.Out{Amount: n, Cond: cond.All(i % parties)})
	}
	return x
}

// usesOf are uses of outputs.
func usesOf(outs ...int) []build.Use {
	var l []build.Use
	for _, n := range outs {
		l = append(l, build.Use{Out: n})
	}
	return l
}

// newClaim is what Claim lets by: of three outputs the first and the last, which have 80 together.
func newClaim() claim {
	return claim{paying(30, 40, 50), []build.Use{{Out: 0, Branch: 3}, {Out: 2, Branch: 1, Secret: []byte("s")}}, 4, 5}
}

// BU3: Claim, word by word.
func TestClaim(t *testing.T) {
	c := newClaim()
	id := sumText(tx.ID(c.t))
	got, err := build.Claim(c.t, c.uses, 4, 5)
	wantText(t, "some", got, err, "lock 0", "in "+id+`:0 by 3 ""`, "in "+id+`:2 by 1 "s"`, "out 75 | [4]")
	got, err = build.Claim(c.t, []build.Use{{Out: 2, Branch: 7, Secret: []byte("x")}, {Out: 1}, {Out: 0, Secret: []byte{}}}, 0, 0)
	wantText(t, "all, in another order", got, err, "lock 0", "in "+id+`:2 by 7 "x"`, "in "+id+`:1 by 0 ""`, "in "+id+`:0 by 0 ""`, "out 120 | [0]")
	got, err = build.Claim(c.t, usesOf(1), 15, 30)
	wantText(t, "one", got, err, "lock 0", "in "+id+`:1 by 0 ""`, "out 10 | [15]")
}

// claimFaults are those of Claim, in its order.
func claimFaults() faults[claim] {
	var l faults[claim]
	first := func(c *claim) *build.Use {
		if len(c.uses) == 0 {
			return &build.Use{}
		}
		return &c.uses[0]
	}
	last := func(c *claim) *build.Use {
		if len(c.uses) == 0 {
			return &build.Use{}
		}
		return &c.uses[len(c.uses)-1]
	}
	l.add(0, api.ErrArg, "uses", "no uses", func(c *claim) { c.uses = nil })
	l.add(0, api.ErrArg, "uses", "an empty list of uses", func(c *claim) { c.uses = []build.Use{} })
	l.numbers(0, api.ErrArg, "fee", func(c *claim) *int { return &c.fee }, -1, maxAmount+1, math.MinInt, math.MaxInt)
	l.numbers(1, api.ErrParty, "who", func(c *claim) *int { return &c.who }, -1, parties, math.MinInt, math.MaxInt)
	l.numbers(2, api.ErrRange, "Out", func(c *claim) *int { return &first(c).Out }, -1, 3, 4, 64, math.MinInt, math.MaxInt)
	l.numbers(2, api.ErrRange, "Out", func(c *claim) *int { return &last(c).Out }, -1, 3, 4, 64, math.MinInt, math.MaxInt)
	l.add(3, api.ErrOver, "amounts", "together two above MaxAmount", func(c *claim) {
		for i := range c.t.Outs {
			c.t.Outs[i].Amount = maxAmount/2 + 1
		}
	})
	l.add(3, api.ErrOver, "amounts", "together more than an int holds", func(c *claim) {
		for i := range c.t.Outs {
			c.t.Outs[i].Amount = math.MaxInt
		}
	})
	l.add(3, api.ErrOver, "amounts", "each MaxAmount", func(c *claim) {
		for i := range c.t.Outs {
			c.t.Outs[i].Amount = maxAmount
		}
	})
	l.numbers(4, api.ErrRange, "Branch", func(c *claim) *int { return &first(c).Branch }, -1, 8, math.MinInt, math.MaxInt)
	l.add(4, api.ErrRange, "Secret", "a secret of 65", func(c *claim) { last(c).Secret = make([]byte, 65) })
	l.add(5, api.ErrTwice, "Out", "an output twice", func(c *claim) { last(c).Out = first(c).Out })
	l.numbers(6, api.ErrDust, "fee", func(c *claim) *int { return &c.fee }, 71, 79, 80, 81, maxAmount)
	l.add(6, api.ErrDust, "amounts", "together 14", func(c *claim) {
		for i := range c.t.Outs {
			c.t.Outs[i].Amount = 7
		}
	})
	l.add(6, api.ErrDust, "amounts", "less than nothing", func(c *claim) {
		for i := range c.t.Outs {
			c.t.Outs[i].Amount = math.MinInt
		}
	})
	return l
}

// BU3: Claim's errors, alone and in pairs.
func TestClaimFaults(t *testing.T) {
	newClaim().try(t, "as it is", 0)
	claimFaults().each(func(what string, no api.Errno, do ...func(c *claim)) {
		c := newClaim()
		for _, f := range do {
			f(&c)
		}
		c.try(t, what, no)
	})
}

// BU3: fees: all there is, Dust less than that, and one more.
func TestClaimFee(t *testing.T) {
	for _, x := range []struct {
		fee int
		no  api.Errno
	}{
		{math.MinInt, api.ErrArg}, {-1, api.ErrArg}, {0, 0}, {1, 0}, {69, 0}, {70, 0}, {71, api.ErrDust}, {79, api.ErrDust}, {80, api.ErrDust}, {81, api.ErrDust},
		{maxAmount - 1, api.ErrDust}, {maxAmount, api.ErrDust}, {maxAmount + 1, api.ErrArg}, {math.MaxInt, api.ErrArg},
	} {
		c := newClaim()
		c.fee = x.fee
		got := c.try(t, fmt.Sprint("a fee of ", x.fee), x.no)
		if x.no == 0 && got.Outs[0].Amount != 80-x.fee {
			t.Errorf("a fee of %d: %s", x.fee, told(got))
		}
	}
}

// BU3: an Out that is none: of no outputs, ahead of the first, and behind the last.
func TestClaimOut(t *testing.T) {
	for n := range 5 {
		x := paying(slices.Repeat([]int{20}, n)...)
		for at := -2; at < 7; at++ {
			want := api.ErrRange
			if 0 <= at && at < n {
				want = 0
			}
			claim{x, usesOf(at), 4, 5}.try(t, fmt.Sprintf("the output %d of %d", at, n), want)
			if n > 0 {
				other := 0
				if at == 0 {
					other = n - 1
				}
				if n == 1 && want == 0 {
					want = api.ErrTwice
				}
				claim{x, usesOf(other, at), 4, 5}.try(t, fmt.Sprintf("the outputs %d and %d of %d", other, at, n), want)
			}
		}
	}
	claim{tx.Tx{}, usesOf(0), 4, 5}.try(t, "of nothing", api.ErrRange)
	claim{tx.Tx{}, nil, 4, 5}.try(t, "nothing of nothing", api.ErrArg)
}

// BU3: who: each party, and strangers.
func TestClaimWho(t *testing.T) {
	for who := -3; who < 20; who++ {
		c := newClaim()
		c.who = who
		want := api.ErrParty
		if 0 <= who && who < parties {
			want = 0
		}
		c.try(t, fmt.Sprint("who ", who), want)
	}
}

// BU3: amounts together at MaxAmount, above it, beyond what an int holds, and below 0, as those of a transaction that can't be.
func TestClaimTogether(t *testing.T) {
	quarter := 1 << 62
	for _, x := range []struct {
		amounts []int
		no      api.Errno
		sum     int
	}{
		{[]int{maxAmount}, 0, maxAmount},
		{[]int{maxAmount + 1}, api.ErrOver, 0},
		{[]int{math.MaxInt}, api.ErrOver, 0},
		{[]int{maxAmount - 1, 1}, 0, maxAmount},
		{[]int{maxAmount, 1}, api.ErrOver, 0},
		{[]int{maxAmount / 2, maxAmount / 2}, 0, maxAmount},
		{[]int{maxAmount / 2, maxAmount/2 + 1}, api.ErrOver, 0},
		{[]int{maxAmount, 0, 0}, 0, maxAmount},
		{[]int{math.MaxInt, math.MaxInt}, api.ErrOver, 0},
		{[]int{math.MaxInt, math.MaxInt, 2}, api.ErrOver, 0},
		{[]int{math.MaxInt, math.MaxInt, 102}, api.ErrOver, 0},
		{[]int{quarter, quarter, quarter, quarter}, api.ErrOver, 0},
		{[]int{quarter, quarter, quarter, quarter, 100}, api.ErrOver, 0},
		{[]int{quarter, quarter}, api.ErrOver, 0},
		{slices.Repeat([]int{quarter}, 64), api.ErrOver, 0},
		{slices.Repeat([]int{quarter}, 5000), api.ErrOver, 0},
		{[]int{3, 3, 4}, 0, 10},
		{[]int{3, 3, 3}, api.ErrDust, 0},
		{[]int{0}, api.ErrDust, 0},
		{[]int{-1}, api.ErrDust, 0},
		{[]int{-20, 30}, 0, 10},
		{[]int{30, -21}, api.ErrDust, 0},
		{[]int{maxAmount + 50, -50}, 0, maxAmount},
		{[]int{-50, maxAmount + 51}, api.ErrOver, 0},
		{[]int{math.MinInt}, api.ErrDust, 0},
		{[]int{math.MinInt, math.MinInt}, api.ErrDust, 0},
		{[]int{math.MinInt, math.MinInt, 100}, api.ErrDust, 0},
		{[]int{math.MinInt, math.MaxInt}, api.ErrDust, 0},
		{[]int{math.MinInt, math.MaxInt, 101}, 0, 100},
		{[]int{math.MaxInt, 101, math.MinInt}, 0, 100},
		{[]int{math.MinInt, math.MinInt, math.MaxInt, math.MaxInt, 102}, 0, 100},
		{[]int{math.MaxInt, math.MaxInt, 102, math.MinInt, math.MinInt}, 0, 100},
		{slices.Repeat([]int{math.MinInt}, 4), api.ErrDust, 0},
		{slices.Repeat([]int{math.MinInt, -1}, 30), api.ErrDust, 0},
	} {
		c := claim{paying(x.amounts...), usesOf(upTo(len(x.amounts))...), 4, 0}
		what := fmt.Sprint(x.amounts[:min(8, len(x.amounts))])
		got := c.try(t, what, x.no)
		if x.no == 0 && got.Outs[0].Amount != x.sum {
			t.Errorf("%s: %s", what, told(got))
		}
		c.fee = maxAmount
		if x.no == 0 {
			x.no = api.ErrDust
		}
		c.try(t, what+" and a fee of MaxAmount", x.no)
	}
}

// BU3: as many uses as a transaction may have inputs, and one more; outputs behind those that a point may tell.
func TestClaimMany(t *testing.T) {
	x := paying(slices.Repeat([]int{20}, 70)...)
	for _, n := range []int{1, 63, 64, 65, 70} {
		want := api.ErrRange
		if n <= maxIO {
			want = 0
		}
		claim{x, usesOf(upTo(n)...), 4, 5}.try(t, fmt.Sprint(n, " uses"), want)
	}
	claim{x, usesOf(63), 4, 5}.try(t, "the output 63", 0)
	claim{x, usesOf(64), 4, 5}.try(t, "the output 64", api.ErrRange)
	claim{x, usesOf(69), 4, 5}.try(t, "the output 69", api.ErrRange)
	claim{x, usesOf(70), 4, 5}.try(t, "the output 70 of 70", api.ErrRange)
	claim{x, usesOf(slices.Repeat([]int{1}, 65)...), 4, 5}.try(t, "65 uses of one", api.ErrRange)
	claim{x, usesOf(slices.Repeat([]int{1}, 64)...), 4, 5}.try(t, "64 uses of one", api.ErrTwice)
	claim{paying(maxAmount), usesOf(0, 0), 4, 5}.try(t, "all there may be twice", api.ErrOver)
	claim{paying(maxAmount), usesOf(slices.Repeat([]int{0}, 65)...), 4, 5}.try(t, "and 65 times", api.ErrOver)
	claim{paying(maxAmount), usesOf(0, 1), 4, 5}.try(t, "and one that is none", api.ErrRange)
	claim{paying(3), usesOf(0, 0), 4, 0}.try(t, "too little twice", api.ErrTwice)
	claim{paying(0), usesOf(make([]int, 1<<20)...), 4, 0}.try(t, "very many uses", api.ErrRange)
	claim{paying(maxAmount), usesOf(make([]int, 1<<20)...), 4, 0}.try(t, "very many uses of much", api.ErrOver)
}

// BU3: Branch and Secret at their bounds.
func TestClaimUse(t *testing.T) {
	for branch := -2; branch < 11; branch++ {
		want := api.ErrRange
		if 0 <= branch && branch < 8 {
			want = 0
		}
		claim{paying(20), []build.Use{{Branch: branch}}, 4, 5}.try(t, fmt.Sprint("Branch ", branch), want)
	}
	for n := range 70 {
		want := api.ErrRange
		if n <= 64 {
			want = 0
		}
		claim{paying(20, 20), []build.Use{{Out: 1}, {Secret: make([]byte, n)}}, 4, 5}.try(t, fmt.Sprint("a secret of ", n), want)
	}
}

// BU3: what is claimed hangs on t's ID and its amounts alone: secrets of t change nothing, all else does.
func TestClaimOf(t *testing.T) {
	c := newClaim()
	want := c.try(t, "as it is", 0)
	c.t.Ins[0].Secret = []byte("another one")
	wantTx(t, "another secret", c.try(t, "another secret", 0), nil, want, 0)
	for i, do := range []func(){func() { c.t.Lock++ }, func() { c.t.Ins[0].Branch++ }, func() { c.t.Outs[1].Amount++ }, func() { c.t.Outs[1].Cond = cond.All(9) }, func() { c.t.Ins = nil }} {
		do()
		got := c.try(t, fmt.Sprint("change ", i), 0)
		if told(got) == told(want) || got.Ins[0].Point != tx.At(c.t, 0) || got.Ins[1].Point != tx.At(c.t, 2) || got.Outs[0].Amount != 75 {
			t.Errorf("change %d: %s", i, told(got))
		}
		want = got
	}
}

// FuzzClaim: claims of outputs of any amounts, and uses of them, each of three bytes.
func FuzzClaim(f *testing.F) {
	f.Add([]byte{30, 0, 0, 40, 0, 0, 50, 0, 0}, []byte{0, 3, 0, 2, 1, 1}, 4, 5)
	f.Add([]byte{255, 1, 127, 255, 1, 127, 2, 0, 0}, []byte{0, 0, 0, 1, 0, 0, 2, 0, 0}, 4, 0)
	f.Add([]byte{1, 2, 50}, []byte{0, 8, 65, 0, 7, 64}, 15, maxAmount)
	f.Fuzz(func(t *testing.T, amounts, uses []byte, who, fee int) {
		c := claim{who: who, fee: fee}
		for ; len(amounts) >= 3; amounts = amounts[3:] {
			n := int(int8(amounts[0]))
			if amounts[1]%2 == 1 {
				n = math.MaxInt - n
			}
			c.t.Outs = append(c.t.Outs, tx.Out{Amount: n + 1<<(amounts[2]%64), Cond: cond.All(3)})
		}
		for ; len(uses) >= 3; uses = uses[3:] {
			c.uses = append(c.uses, build.Use{Out: int(int8(uses[0])), Branch: int(int8(uses[1])), Secret: make([]byte, uses[2])})
		}
		_, no := plainClaim(t, c.t, c.uses, who, fee)
		c.try(t, fmt.Sprint(c), no)
	})
}
