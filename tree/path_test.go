package tree_test

import (
	"fmt"
	"math"
	"slices"
	"testing"

	"bayou/api"
	"bayou/tree"
)

// The chapter's example.
func TestExample(t *testing.T) {
	c := tree.Config{Amount: 100, Keys: []int{1, 2}, Depth: 2, First: 10, Last: 6, Step: 2}
	p, err := tree.Begin(c)
	want(t, "Begin", p, err, tree.Path{10, 10}, 0)
	for i, next := range []tree.Path{{10, 8}, {10, 6}, {8, 10}, {8, 8}, {8, 6}, {6, 10}, {6, 8}, {6, 6}} {
		left, err := tree.Left(c, p)
		want(t, fmt.Sprint("Left of ", p), left, err, 8-i, 0)
		q, err := tree.Next(c, p)
		want(t, fmt.Sprint("Next of ", p), q, err, next, 0)
		p = q
	}
	left, err := tree.Left(c, p)
	want(t, "Left of the last one", left, err, 0, 0)
	p, err = tree.Next(c, p)
	want(t, "Next of the last one", p, err, nil, api.ErrSlot)
}

// TR2: where Step does not divide First less Last, the least height of a rank is above Last.
func TestNextAboveLast(t *testing.T) {
	c := small(2, 10, 5, 2)
	p, err := tree.Begin(c)
	wantErr(t, "Begin", err, 0)
	for i, next := range []tree.Path{{10, 8}, {10, 6}, {8, 10}, {8, 8}, {8, 6}, {6, 10}, {6, 8}, {6, 6}} {
		left, err := tree.Left(c, p)
		want(t, fmt.Sprint("Left of ", p), left, err, 8-i, 0)
		p, err = tree.Next(c, p)
		want(t, "Next", p, err, next, 0)
	}
	_, err = tree.Next(c, p)
	wantErr(t, "Next of the last one", err, api.ErrSlot)
	for _, bad := range []tree.Path{{10, 5}, {5, 10}, {5, 5}, {10, 7}, {9, 9}, {6, 4}} {
		_, err := tree.Next(c, bad)
		wantErr(t, fmt.Sprint("Next of ", bad), err, api.ErrArg)
	}
}

// TR2: from the first path to the last one of small trees, held against all paths by hand: each but the first is Next of the one ahead of it, and is newer than all ahead of it; Left counts those behind.
func TestSmall(t *testing.T) {
	for _, c := range smalls() {
		all := every(c)
		p, err := tree.Begin(c)
		want(t, fmt.Sprint("Begin of ", c), p, err, all[0], 0)
		for i, at := range all {
			what := fmt.Sprint(c, ": ", at, ": ")
			want(t, what+"the path", p, err, at, 0)
			left, lost := tree.Left(c, at)
			want(t, what+"Left", left, lost, len(all)-1-i, 0)
			p, err = tree.Next(c, at)
			holdNewer(t, c, all, i)
		}
		want(t, fmt.Sprint(c, ": behind the last one"), p, err, nil, api.ErrSlot)
		scene{fmt.Sprint(c), c, all[0], all[len(all)-1], base().outs}.try(t)
	}
}

// holdNewer holds Newer of a path and each one against their places among all.
func holdNewer(t *testing.T, c tree.Config, all []tree.Path, i int) {
	t.Helper()
	for j, q := range all {
		if got := tree.Newer(c, all[i], q); got != (i > j) {
			t.Errorf("%v: Newer(%v, %v): %v", c, all[i], q, got)
		}
	}
}

// lowered are a path of a tree by how many Steps each rank is below First.
func lowered(c tree.Config, steps ...int) tree.Path {
	var p tree.Path
	for _, n := range steps {
		p = append(p, c.First-n*c.Step)
	}
	return p
}

// TR2: Left of great trees: those that have a few paths less than 2^30, so many, and more, also more than an int holds.
func TestLeftGreat(t *testing.T) {
	for _, x := range []struct {
		most  int // Steps of a rank
		steps []int
		left  int
	}{
		{180, []int{0, 0, 0, 0}, 181*181*181*181 - 1},
		{181, []int{0, 0, 0, 0}, mostLeft},
		{1, []int{0, 0, 0, 0, 0, 0, 0, 0}, 255},
		{12, []int{0, 0, 0, 0, 0, 0, 0, 0}, 13*13*13*13*13*13*13*13 - 1},
		{13, []int{0, 0, 0, 0, 0, 0, 0, 0}, mostLeft},
		{31, []int{0, 0, 0, 0, 0, 0}, mostLeft - 1},
		{63, []int{0, 0, 0, 0, 0}, mostLeft - 1},
		{255, []int{191, 255, 255, 255}, mostLeft},
		{255, []int{191, 255, 255, 254}, mostLeft},
		{255, []int{192, 0, 0, 0}, mostLeft - 1},
		{255, []int{192, 0, 0, 1}, mostLeft - 2},
		{255, []int{255, 255, 255, 255}, 0},
		{255, []int{0, 0, 0, 0}, mostLeft},
		{255, []int{254, 255, 255, 255}, 1 << 24},
		{255, []int{0, 0, 0, 0, 0, 0, 0}, mostLeft},
		{255, []int{0, 0, 0, 0, 0, 0, 0, 0}, mostLeft},
		{255, []int{255, 0, 0, 0, 0, 0, 0, 0}, mostLeft},
		{255, []int{127, 0, 0, 0, 0, 0, 0, 0}, mostLeft},
		{255, []int{127, 255, 255, 255, 255, 255, 255, 255}, mostLeft},
		{255, []int{254, 255, 255, 255, 255, 255, 255, 255}, mostLeft},
		{255, []int{255, 254, 255, 255, 255, 255, 255, 255}, mostLeft},
		{255, []int{255, 255, 255, 254, 255, 255, 255, 255}, mostLeft},
		{255, []int{255, 255, 255, 255, 191, 255, 255, 255}, mostLeft},
		{255, []int{255, 255, 255, 255, 192, 0, 0, 0}, mostLeft - 1},
		{255, []int{255, 255, 255, 255, 255, 255, 255, 254}, 1},
		{255, []int{255, 255, 255, 255, 255, 255, 255, 255}, 0},
		{0, []int{0, 0, 0, 0, 0, 0, 0, 0}, 0},
		{0, []int{0}, 0},
		{255, []int{0}, 255},
		{255, []int{255}, 0},
	} {
		for _, step := range []int{1, 5, 1 << 28} {
			c := small(len(x.steps), 2+x.most*step+step/2, 2, step)
			p := lowered(c, x.steps...)
			left, err := tree.Left(c, p)
			want(t, fmt.Sprint("Left of ", x.steps, " of ", x.most), left, err, x.left, 0)
			scene{fmt.Sprint(c), c, p, lowered(c, make([]int, c.Depth)...), base().outs}.try(t)
		}
	}
}

// TR2: Left is one less behind each Next, on a walk where the ranks turn.
func TestLeftWalk(t *testing.T) {
	c := small(4, 257, 2, 1)
	p := lowered(c, 192, 0, 254, 253)
	left, err := tree.Left(c, p)
	want(t, "Left", left, err, 63<<24|255<<16|1<<8|2, 0)
	for range 1000 {
		q, err := tree.Next(c, p)
		wantErr(t, "Next", err, 0)
		if !tree.Newer(c, q, p) || tree.Newer(c, p, q) {
			t.Errorf("%v behind %v is not newer", q, p)
		}
		left--
		n, err := tree.Left(c, q)
		want(t, fmt.Sprint("Left of ", q), n, err, left, 0)
		p = q
	}
}

// pathFaults are paths that the base has not, behind all errors of Check.
func pathFaults() faults {
	var l faults
	for _, p := range badPaths() {
		l.add(3, api.ErrArg, "p", fmt.Sprint("the path ", p), func(s *scene) { s.p = slices.Clone(p) })
	}
	return l
}

// badPaths are paths that the base has not: its heights are 20, 17, 14 and 11.
func badPaths() []tree.Path {
	l := []tree.Path{
		nil, {}, {20}, {20, 20}, {11, 11}, {20, 20, 20, 20}, {11, 11, 11, 11}, {20, 17, 14, 11}, slices.Repeat(tree.Path{20}, 8),
		slices.Repeat(tree.Path{20}, 9), slices.Repeat(tree.Path{20}, 5000),
	}
	for rank := range 3 {
		for _, h := range []int{21, 23, 19, 18, 16, 15, 13, 12, 10, 8, 5, 2, 1, 0, -1, -4, 20 - maxHeight, maxHeight, maxHeight + 1, math.MinInt, math.MinInt + 1, math.MinInt + 20, math.MaxInt, math.MaxInt - 1} {
			p := tree.Path{20, 14, 17}
			p[rank] = h
			l = append(l, p)
		}
	}
	return l
}

// TR2, TR3: paths that a tree has not, alone and with each error of Check: ErrArg, and Newer of them is false, either way.
func TestPathFaults(t *testing.T) {
	l := append(checkFaults(), pathFaults()...)
	for _, x := range pathFaults() {
		s := base()
		x.do(&s)
		for _, q := range append(badPaths(), s.q, tree.Path{20, 20, 20}, tree.Path{11, 11, 11}) {
			if tree.Newer(s.c, s.p, q) || tree.Newer(s.c, q, s.p) {
				t.Errorf("Newer of %v and %v, of which one is no path", s.p, q)
			}
		}
	}
	l.each(t, func(s scene, no api.Errno) { wantPathFault(t, s, no) })
}

// TR2: ErrSlot comes behind Check's errors and a path that is none; Left and Due of the last path are none.
func TestNextOrder(t *testing.T) {
	var l faults
	l = append(l, checkFaults()...)
	for _, p := range []tree.Path{nil, {11}, {11, 11}, {11, 11, 11, 11}, {11, 11, 10}, {8, 11, 11}, {11, 12, 11}} {
		l.add(3, api.ErrArg, "p", fmt.Sprint("the path ", p), func(s *scene) { s.p = p })
	}
	l.add(4, api.ErrSlot, "nothing", "the last path", func(s *scene) {})
	for _, x := range l {
		s := base()
		s.p = tree.Path{11, 11, 11}
		x.do(&s)
		s.what = x.what
		s.try(t)
		_, err := tree.Next(s.c, s.p)
		wantErr(t, s.what, err, x.no)
	}
}

// TR2: Newer of paths of the base, told by hand, and of trees that can't be or have them not.
func TestNewer(t *testing.T) {
	c := base().c
	for _, x := range []struct {
		newer, older tree.Path
	}{
		{tree.Path{20, 20, 17}, tree.Path{20, 20, 20}},
		{tree.Path{20, 17, 20}, tree.Path{20, 20, 11}},
		{tree.Path{17, 20, 20}, tree.Path{20, 11, 11}},
		{tree.Path{11, 11, 11}, tree.Path{11, 11, 14}},
		{tree.Path{11, 20, 20}, tree.Path{14, 11, 11}},
	} {
		if !tree.Newer(c, x.newer, x.older) || tree.Newer(c, x.older, x.newer) || tree.Newer(c, x.newer, x.newer) || tree.Newer(c, x.older, x.older) {
			t.Errorf("%v is not newer than %v", x.newer, x.older)
		}
		for _, other := range []func(c *tree.Config){
			func(c *tree.Config) { c.Depth = 2 },
			func(c *tree.Config) { c.Depth = 4 },
			func(c *tree.Config) { c.First = 19 },
			func(c *tree.Config) { c.First = 21 },
			func(c *tree.Config) { c.Step = 0 },
			func(c *tree.Config) { c.Step = 2 },
			func(c *tree.Config) { c.Step = math.MaxInt },
			func(c *tree.Config) { c.Keys = []int{1} },
			func(c *tree.Config) { c.Fee = 31 },
			func(c *tree.Config) { c.Amount = 9 },
		} {
			d := c
			other(&d)
			if tree.Newer(d, x.newer, x.older) || tree.Newer(d, x.older, x.newer) {
				t.Errorf("Newer of %v: %v, %v", d, x.newer, x.older)
			}
		}
	}
	if tree.Newer(c, nil, nil) || tree.Newer(tree.Config{}, nil, nil) || tree.Newer(tree.Config{}, tree.Path{1}, tree.Path{2}) {
		t.Errorf("Newer of nothing")
	}
}

// Rule 4: what a call answers hangs on its arguments alone: asked twice, with others between, it is the same.
func TestAskedAgain(t *testing.T) {
	c := small(3, 9, 2, 3)
	all := every(c)
	for range 2 {
		for _, i := range []int{0, len(all) - 1, 5, len(all) / 2, 5} {
			scene{fmt.Sprint(all[i]), c, all[i], all[len(all)-1-i], base().outs}.try(t)
		}
	}
}
