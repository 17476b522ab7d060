package crowd

import (
	"math"
	"slices"
	"testing"

	"yokefellow/api"
)

type told4 = [api.Nodes][api.Heights]int

type list = [api.Heights]int

// P4.4: height by height, the least of several, up to where there is none.
func TestTake(t *testing.T) {
	for _, x := range []struct {
		told told4
		want list
	}{
		{told4{}, list{}},
		{told4{{7, 3, 9, 1}, {7, 3, 9, 1}, {7, 3, 9, 1}, {7, 3, 9, 1}}, list{7, 3, 9, 1}},
		{told4{{7, 3, 9, 1}, {7, 3, 9}, {7, 3}, {7}}, list{7, 3, 9}},
		{told4{{7, 3, 9, 1}}, list{}},
		{told4{{7}, {}, {}, {7}}, list{7}},
		{told4{{9, 1}, {1, 9}, {9, 9}, {1, 1}}, list{1, 1}},
		{told4{{8}, {8}, {2}, {2}}, list{2}},
		{told4{{8}, {2}, {8}, {8}}, list{8}},
		{told4{{1, 2, 3, 4}, {1, 3, 3, 4}, {1, 4, 3, 4}, {1, 5, 3, 4}}, list{1}},
		{told4{{1, 2, 3, 4}, {2, 2, 3, 4}, {3, 2, 3, 4}, {4, 2, 3, 4}}, list{}},
		{told4{{1, 2, 3, 4}, {1, 2, 3, 5}, {1, 2, 3, 6}, {1, 2, 3, 7}}, list{1, 2, 3}},
	} {
		if l := Take(x.told); l != x.want {
			t.Errorf("Take(%v) = %v, not %v", x.told, l, x.want)
		}
	}
}

// P4.4: what two tell that is no value is none; it keeps nobody from taking a value, and ends the list where there is none.
func TestTakeOfNoValues(t *testing.T) {
	for _, n := range []int{math.MinInt, -1, 0, api.Values + 1, math.MaxInt} {
		if l := Take(told4{{n, 1}, {n, 1}, {n, 1}, {n, 1}}); l != (list{}) {
			t.Errorf("%d: %v", n, l)
		}
		if l := Take(told4{{n, n}, {n, n}, {5, 5}, {5, 4}}); l != (list{5}) {
			t.Errorf("%d: %v", n, l)
		}
	}
}

// P4.4: all that four nodes can tell of one height, at each height.
func TestTakeOfAll(t *testing.T) {
	const least, most = -1, api.Values + 1
	for height := range api.Heights {
		var l told4
		for i := range l {
			for below := range height {
				l[i][below] = api.Values
			}
		}
		for n := range (most - least + 1) * (most - least + 1) * (most - least + 1) * (most - least + 1) {
			for i := range l {
				l[i][height] = least + n%(most-least+1)
				n /= most - least + 1
			}
			want := leastTwice(l, height)
			if got := Take(l); got[height] != want || height > 0 && got[height-1] != api.Values {
				t.Fatalf("Take(%v) = %v, not %d", l, got, want)
			}
		}
	}
}

// leastTwice looks at neighbours in a sorted list.
func leastTwice(l told4, height int) int {
	sorted := []int{l[0][height], l[1][height], l[2][height], l[3][height]}
	slices.Sort(sorted)
	for i := range 3 {
		if n := sorted[i]; n == sorted[i+1] && n >= 1 && n <= api.Values {
			return n
		}
	}
	return 0
}

// settledAt is a crowd whose nodes have settled these lists.
func settledAt(t *testing.T, liar int, l told4) *Crowd {
	c := newCrowd(t, liar)
	for i, settled := range l {
		c.nodes[i].Settled = settled
		for c.nodes[i].Height < api.Heights && settled[c.nodes[i].Height] != 0 {
			c.nodes[i].Height++
		}
	}
	return c
}

// P4.4: ActRead takes of what all have settled; the liar tells something else only if N is not 0.
func TestRead(t *testing.T) {
	settled := told4{{7, 3, 9}, {7, 3}, {7}, {7, 3, 9}}
	for _, x := range []struct {
		liar, n int
		tell    list
		want    list
	}{
		{-1, 0, list{}, list{7, 3, 9}},
		{-1, 1, list{5, 5, 5, 5}, list{7, 3, 9}},
		{-1, -1, list{}, list{7, 3, 9}},
		{0, 0, list{5, 5, 5, 5}, list{7, 3, 9}},
		{0, 1, list{5, 5, 5, 5}, list{7, 3}},
		{0, -1, list{5, 5, 5, 5}, list{7, 3}},
		{0, math.MinInt, list{}, list{7, 3}},
		{0, 2, list{7, 3, 9, 1}, list{7, 3, 9}},
		{1, 2, list{7, 3, 9, 1}, list{7, 3, 9}},
		{2, 4, list{7, 3, 9, 1}, list{7, 3, 9}},
		{2, 1, list{7, 4, 9, 1}, list{7, 3, 9}},
		{3, 8, list{-1, 10, math.MaxInt, math.MinInt}, list{7, 3}},
	} {
		c := settledAt(t, x.liar, settled)
		before := look(c)
		wantReply(t, c, api.Act{Kind: api.ActRead, N: x.n, Tell: x.tell}, api.Reply{Settled: x.want})
		if !look(c).is(before) {
			t.Errorf("%+v: reading has changed something", x)
		}
	}
}

// P4.5: Run answers what a new crowd answers, one by one.
func TestRun(t *testing.T) {
	acts := []api.Act{
		submit(0, 7), {}, deliver(0), deliver(3), deliver(1), deliver(8), lie(3, wish(2, 0, 0)), lie(3, wish(1, 0, 0)),
		timeOut(3), timeOut(4), drop(2), deliver(999), read(1, 2), submit(2, 0),
	}
	for liar := -1; liar < api.Nodes; liar++ {
		replies, e := Run(liar, acts)
		if e != api.OK || len(replies) != len(acts) {
			t.Fatalf("Run(%d) = %d replies, %d", liar, len(replies), e)
		}
		c := newCrowd(t, liar)
		for i, a := range acts {
			wantReply(t, c, a, replies[i])
		}
		if replies[0] != (api.Reply{N: 6}) || replies[1] != (api.Reply{Code: api.ErrKind}) {
			t.Errorf("Run(%d) = %+v", liar, replies)
		}
	}
}

// P4.5: no acts, as many as may be, and more; New's error comes first.
func TestRunEdges(t *testing.T) {
	for _, acts := range [][]api.Act{nil, {}} {
		if replies, e := Run(-1, acts); len(replies) != 0 || e != api.OK {
			t.Errorf("of no acts: %v, %d", replies, e)
		}
	}
	acts := slices.Repeat([]api.Act{read()}, api.MaxActs+1)
	replies, e := Run(3, acts[:api.MaxActs])
	if e != api.OK || len(replies) != api.MaxActs || slices.ContainsFunc(replies, func(r api.Reply) bool { return r != api.Reply{} }) {
		t.Errorf("of MaxActs: %d replies, %d", len(replies), e)
	}
	if replies, e := Run(3, acts); len(replies) != 0 || e != api.ErrFull {
		t.Errorf("of more: %d replies, %d", len(replies), e)
	}
	for _, liar := range []int{math.MinInt, -2, api.Nodes, math.MaxInt} {
		if replies, e := Run(liar, acts); len(replies) != 0 || e != api.ErrRange {
			t.Errorf("Run(%d): %d replies, %d", liar, len(replies), e)
		}
		if replies, e := Run(liar, nil); len(replies) != 0 || e != api.ErrRange {
			t.Errorf("Run(%d): %d replies, %d", liar, len(replies), e)
		}
	}
}

// 'What holds everywhere': the acts that are handed in stay as they are.
func TestRunLeavesItsActs(t *testing.T) {
	room := []api.Act{submit(0, 7), deliver(0), drop(0), timeOut(1), read()}
	before := slices.Clone(room)
	Run(0, room[:3])
	if !slices.Equal(room, before) {
		t.Errorf("acts are %+v", room)
	}
}
