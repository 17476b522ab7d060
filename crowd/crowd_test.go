package crowd

import (
	"math"
	"reflect"
	"slices"
	"testing"

	"yokefellow/api"
	"yokefellow/node"
)

var noNodes = []int{math.MinInt, -2, -1, api.Nodes, api.Nodes + 1, math.MaxInt}

func newCrowd(t *testing.T, liar int) *Crowd {
	t.Helper()
	c, e := New(liar)
	if c == nil || e != api.OK {
		t.Fatalf("New(%d) = %v, %d", liar, c, e)
	}
	return c
}

func submit(who, value int) api.Act {
	return api.Act{Kind: api.ActSubmit, Node: who, Value: value}
}

func deliver(n int) api.Act { return api.Act{Kind: api.ActDeliver, N: n} }

func drop(n int) api.Act { return api.Act{Kind: api.ActDrop, N: n} }

func timeOut(who int) api.Act { return api.Act{Kind: api.ActTime, Node: who} }

func lie(to int, w api.Word) api.Act { return api.Act{Kind: api.ActLie, Node: to, Word: w} }

func read(tell ...int) api.Act {
	a := api.Act{Kind: api.ActRead, N: len(tell)}
	copy(a.Tell[:], tell)
	return a
}

func propose(from, round, value, valid int) api.Word {
	return api.Word{Kind: api.Propose, From: from, Round: round, Value: value, Valid: valid}
}

func wish(from, round, value int) api.Word {
	return api.Word{Kind: api.Wish, From: from, Round: round, Value: value}
}

func promise(from, round, value int) api.Word {
	return api.Word{Kind: api.Promise, From: from, Round: round, Value: value}
}

func same(a, b api.Node) bool {
	equal := slices.Equal(a.Queue, b.Queue)
	a.Queue, b.Queue = nil, nil
	return equal && reflect.DeepEqual(a, b)
}

// sight is all that is to be seen of a crowd.
type sight struct {
	nodes [api.Nodes]api.Node
	net   []api.Letter
}

// look copies all lists: a sight must not change with the crowd, even if what the crowd answers does.
func look(c *Crowd) sight {
	s := sight{net: slices.Clone(c.Net())}
	for i := range s.nodes {
		s.nodes[i] = c.Node(i)
		s.nodes[i].Queue = slices.Clone(s.nodes[i].Queue)
	}
	return s
}

func (s sight) is(o sight) bool {
	for i := range s.nodes {
		if !same(s.nodes[i], o.nodes[i]) {
			return false
		}
	}
	return slices.Equal(s.net, o.net)
}

// do is an act that must not be refused.
func do(t *testing.T, c *Crowd, a api.Act) api.Reply {
	t.Helper()
	r := c.Do(a)
	if r.Code != api.OK {
		t.Fatalf("%+v: says %d", a, r.Code)
	}
	return r
}

func wantReply(t *testing.T, c *Crowd, a api.Act, want api.Reply) {
	t.Helper()
	if r := c.Do(a); r != want {
		t.Fatalf("%+v: answers %+v, not %+v", a, r, want)
	}
}

// wantRefused: nothing but a code is answered, and nothing to be seen changes.
func wantRefused(t *testing.T, c *Crowd, a api.Act, want api.Errno) {
	t.Helper()
	before := look(c)
	wantReply(t, c, a, api.Reply{Code: want})
	if !look(c).is(before) {
		t.Fatalf("%+v was refused, and has changed something", a)
	}
}

func wantNet(t *testing.T, c *Crowd, want ...api.Letter) {
	t.Helper()
	if l := c.Net(); !slices.Equal(l, want) {
		t.Fatalf("letters %+v, not %+v", l, want)
	}
}

// P4.1: a new crowd is of four new nodes, without letters, whoever may lie.
func TestNew(t *testing.T) {
	for liar := -1; liar < api.Nodes; liar++ {
		c := newCrowd(t, liar)
		for i := range api.Nodes {
			if s := c.Node(i); !same(s, node.New()) {
				t.Errorf("New(%d): node %d is %+v", liar, i, s)
			}
		}
		wantNet(t, c)
	}
}

// P4.1: who is neither -1 nor a node can't be the liar.
func TestNewWrong(t *testing.T) {
	for _, liar := range noNodes {
		if liar == -1 {
			continue
		}
		if c, e := New(liar); c != nil || e != api.ErrRange {
			t.Errorf("New(%d) = %v, %d", liar, c, e)
		}
	}
}

// P4.1: of no node there is the zero value, which is no new node.
func TestNodeWrong(t *testing.T) {
	c := newCrowd(t, 1)
	for _, i := range noNodes {
		if s := c.Node(i); !same(s, api.Node{}) {
			t.Errorf("Node(%d) = %+v", i, s)
		}
	}
}

// P4.1: Node and Net are as they stand: each node has a place of its own.
func TestNodeAsItStands(t *testing.T) {
	c := newCrowd(t, -1)
	for i := range api.Nodes {
		do(t, c, submit(i, i+1))
		do(t, c, submit(i, i+5))
	}
	for i := range api.Nodes {
		if q := c.Node(i).Queue; !slices.Equal(q, []int{i + 1, i + 5}) {
			t.Errorf("node %d: queue %v", i, q)
		}
	}
	if step := c.Node(0).Step; step != api.Wished {
		t.Errorf("node 0: step %d", step)
	}
	wantNet(t, c, said(0, propose(0, 0, 1, -1), wish(0, 0, 1))...)
}

// P4.1: a nil crowd has nothing; whatever is done to it, there is none.
func TestNilCrowd(t *testing.T) {
	var none *Crowd
	for kind := -1; kind <= api.ActRead+1; kind++ {
		a := api.Act{Kind: kind, N: 1, Value: 1, Word: wish(0, 0, 1), Tell: [api.Heights]int{1}}
		if r := none.Do(a); r != (api.Reply{Code: api.ErrNone}) {
			t.Errorf("kind %d: %+v", kind, r)
		}
	}
	for _, i := range append([]int{0, 1, 2, 3}, noNodes...) {
		if s := none.Node(i); !same(s, api.Node{}) {
			t.Errorf("Node(%d) = %+v", i, s)
		}
	}
	if l := none.Net(); len(l) != 0 {
		t.Errorf("Net() = %v", l)
	}
}

// A crowd that was not made by New panics nowhere, either.
func TestZeroCrowd(t *testing.T) {
	for kind := -1; kind <= api.ActRead+1; kind++ {
		var c Crowd
		c.Do(api.Act{Kind: kind, N: 1, Value: 1, Word: wish(0, 0, 1), Tell: [api.Heights]int{1}})
		look(&c)
	}
}

// 'What holds everywhere': what a crowd answers is the caller's.
func TestAnswersAreTheCallers(t *testing.T) {
	c := newCrowd(t, -1)
	do(t, c, submit(0, 7))
	do(t, c, submit(0, 8))
	before := look(c)

	s, l := c.Node(0), c.Net()
	s.Queue[0] = 9
	s.Queue = append(s.Queue[:1], 9, 9, 9)
	l[0] = api.Letter{To: 3}
	_ = append(l[:1], make([]api.Letter, 3)...)
	if !look(c).is(before) {
		t.Fatal("the caller has changed the crowd")
	}

	kept, list := c.Node(0), c.Net()
	do(t, c, drop(0))
	do(t, c, submit(0, 6))
	if !slices.Equal(kept.Queue, []int{7, 8}) || !slices.Equal(list, before.net) {
		t.Fatalf("what was answered has changed: %v, %+v", kept.Queue, list)
	}
}

// P4.2: a kind that is none of the six.
func TestKinds(t *testing.T) {
	for _, kind := range []int{math.MinInt, -1, 0, 7, 8, math.MaxInt} {
		c := newCrowd(t, 0)
		do(t, c, submit(0, 7))
		wantRefused(t, c, api.Act{Kind: kind, Node: 9, N: -1, Value: 1, Word: wish(0, 0, 1)}, api.ErrKind)
	}
}

// P4.2: acts are counted whatever their replies are; the last one is still done, all further ones are not, whatever they are.
func TestActsAreCounted(t *testing.T) {
	refused := []api.Act{{}, submit(4, 1), submit(1, 0), deliver(0), drop(-1), lie(0, wish(1, 0, 1)), lie(0, api.Word{})}
	c := newCrowd(t, 0)
	for i := range api.MaxActs - 2 {
		a := refused[i%len(refused)]
		if r := c.Do(a); r.Code == api.OK || r.Code == api.ErrFull {
			t.Fatalf("act %d says %d", i, r.Code)
		}
	}
	wantReply(t, c, read(), api.Reply{})
	wantReply(t, c, submit(0, 7), api.Reply{N: 6})
	for _, a := range append(refused, submit(0, 8), deliver(0), drop(0), timeOut(1), lie(1, wish(0, 0, 1)), read(1)) {
		wantRefused(t, c, a, api.ErrFull)
	}
}

// P4.2: ActSubmit, ActTime and ActLie are at a node; ActSubmit's value is wrong, or there is no room for it.
func TestWrongTurns(t *testing.T) {
	c := newCrowd(t, 2)
	for _, who := range noNodes {
		wantRefused(t, c, submit(who, 1), api.ErrRange)
		wantRefused(t, c, submit(who, 0), api.ErrRange)
		wantRefused(t, c, timeOut(who), api.ErrRange)
		wantRefused(t, c, lie(who, wish(2, 0, 1)), api.ErrRange)
	}
	for _, value := range []int{math.MinInt, -1, 0, api.Values + 1, math.MaxInt} {
		wantRefused(t, c, submit(1, value), api.ErrRange)
	}
	for range api.MaxQueue {
		wantReply(t, c, submit(1, 9), api.Reply{})
	}
	wantRefused(t, c, submit(1, 9), api.ErrFull)
	wantRefused(t, c, submit(1, 0), api.ErrRange)
	wantReply(t, c, submit(3, 9), api.Reply{})
}

// P4.2: of ActLie the word's own error comes first, then that it is not from the liar, then that there is no such node.
func TestWrongLies(t *testing.T) {
	c := newCrowd(t, 2)
	wantRefused(t, c, lie(9, api.Word{From: 1}), api.ErrKind)
	wantRefused(t, c, lie(9, api.Word{Kind: api.Promise + 1, From: 2}), api.ErrKind)
	wantRefused(t, c, lie(9, wish(-1, 0, 1)), api.ErrRange)
	wantRefused(t, c, lie(0, wish(1, api.Rounds, 1)), api.ErrRange)
	wantRefused(t, c, lie(0, propose(2, 2, 1, 2)), api.ErrRange)
	wantRefused(t, c, lie(9, api.Word{Kind: api.Wish, From: 1, Valid: 1}), api.ErrForm)
	for _, from := range []int{0, 1, 3} {
		wantRefused(t, c, lie(9, wish(from, 0, 1)), api.ErrTrue)
		wantRefused(t, c, lie(from, wish(from, 0, 1)), api.ErrTrue)
	}
	wantRefused(t, c, lie(4, wish(2, 0, 1)), api.ErrRange)
	wantReply(t, c, lie(0, wish(2, 0, 1)), api.Reply{})

	allTrue := newCrowd(t, -1)
	for from := range api.Nodes {
		wantRefused(t, allTrue, lie(0, wish(from, 0, 1)), api.ErrTrue)
	}
	wantRefused(t, allTrue, lie(0, wish(-1, 0, 1)), api.ErrRange)
}

// P4.2: letters are numbered from 0 on, up to the last that lies there.
func TestNoSuchLetter(t *testing.T) {
	c := newCrowd(t, -1)
	for _, n := range []int{-1, 0, 1} {
		wantRefused(t, c, deliver(n), api.ErrNone)
		wantRefused(t, c, drop(n), api.ErrNone)
	}
	do(t, c, submit(0, 7))
	for _, n := range []int{math.MinInt, -1, 6, 7, math.MaxInt} {
		wantRefused(t, c, deliver(n), api.ErrNone)
		wantRefused(t, c, drop(n), api.ErrNone)
	}
	do(t, c, deliver(5))
	do(t, c, drop(5))
}

// P4.2: ActSubmit, ActTime, ActLie and ActDeliver are chapter 3's Submit, Time and Hear at one node, and at no other.
func TestTurnsAreTheNodes(t *testing.T) {
	c := newCrowd(t, 0)
	do(t, c, submit(0, 7))
	moves := []struct {
		act  api.Act
		who  int
		does func(api.Node) (api.Node, []api.Word, api.Errno)
	}{
		{submit(3, 4), 3, func(s api.Node) (api.Node, []api.Word, api.Errno) { return node.Submit(s, 3, 4) }},
		{deliver(1), 2, func(s api.Node) (api.Node, []api.Word, api.Errno) { return node.Hear(s, 2, propose(0, 0, 7, -1)) }},
		{timeOut(1), 1, func(s api.Node) (api.Node, []api.Word, api.Errno) { return node.Time(s, 1) }},
		{lie(3, propose(0, 0, 2, -1)), 3, func(s api.Node) (api.Node, []api.Word, api.Errno) { return node.Hear(s, 3, propose(0, 0, 2, -1)) }},
		{lie(0, promise(0, 1, 5)), 0, func(s api.Node) (api.Node, []api.Word, api.Errno) { return node.Hear(s, 0, promise(0, 1, 5)) }},
	}
	for _, m := range moves {
		want := look(c)
		after, words, e := m.does(want.nodes[m.who])
		if e != api.OK {
			t.Fatalf("%+v: node says %d", m.act, e)
		}
		want.nodes[m.who] = after
		letters := said(m.who, words...)
		want.net = append(want.net, letters...)
		wantReply(t, c, m.act, api.Reply{N: len(letters)})
		if !look(c).is(want) {
			t.Fatalf("%+v: is %+v, not %+v", m.act, look(c), want)
		}
	}
}

// P4.2: an act's other fields say nothing.
func TestOtherFields(t *testing.T) {
	odd := func(a api.Act, of ...*int) api.Act {
		for _, n := range of {
			*n = -9
		}
		return a
	}
	c := newCrowd(t, -1)
	a := submit(0, 7)
	wantReply(t, c, odd(a, &a.N, &a.Word.Kind), api.Reply{N: 6})
	a = timeOut(1)
	wantReply(t, c, odd(a, &a.N, &a.Value, &a.Word.Kind), api.Reply{N: 3})
	a = deliver(2)
	wantReply(t, c, odd(a, &a.Node, &a.Value, &a.Word.Kind), api.Reply{N: 3})
	a = drop(2)
	wantReply(t, c, odd(a, &a.Node, &a.Value, &a.Word.Kind), api.Reply{})
	a = read(7)
	wantReply(t, c, odd(a, &a.Node, &a.Value, &a.Word.Kind), api.Reply{})
}

// P4.2: a letter that is delivered goes on lying there, and may come again; one that is dropped is gone, the others close up.
func TestDeliverAndDrop(t *testing.T) {
	c := newCrowd(t, -1)
	do(t, c, submit(0, 7))
	letters := said(0, propose(0, 0, 7, -1), wish(0, 0, 7))
	wantReply(t, c, deliver(0), api.Reply{N: 3})
	letters = append(letters, said(1, wish(1, 0, 7))...)
	wantNet(t, c, letters...)
	before := look(c)
	wantReply(t, c, deliver(0), api.Reply{})
	if !look(c).is(before) {
		t.Error("a letter that came twice has changed something")
	}
	for _, n := range []int{4, 0, len(letters) - 3, 2, 0, 0, 0, 0, 0} {
		letters = slices.Delete(letters, n, n+1)
		before := look(c)
		wantReply(t, c, drop(n), api.Reply{})
		wantNet(t, c, letters...)
		before.net = letters
		if !look(c).is(before) {
			t.Errorf("dropping letter %d has changed a node", n)
		}
	}
	wantRefused(t, c, drop(0), api.ErrNone)
}

// said is the letters of what a node says.
func said(from int, words ...api.Word) []api.Letter {
	var letters []api.Letter
	for _, w := range words {
		for to := range api.Nodes {
			if to != from {
				letters = append(letters, api.Letter{To: to, Word: w})
			}
		}
	}
	return letters
}

// P4.3: word by word, node by node, behind the others; nobody writes to itself.
func TestLettersGoToAllOthers(t *testing.T) {
	c := newCrowd(t, 0)
	wantReply(t, c, submit(0, 7), api.Reply{N: 6})
	wantNet(t, c,
		api.Letter{To: 1, Word: propose(0, 0, 7, -1)}, api.Letter{To: 2, Word: propose(0, 0, 7, -1)}, api.Letter{To: 3, Word: propose(0, 0, 7, -1)},
		api.Letter{To: 1, Word: wish(0, 0, 7)}, api.Letter{To: 2, Word: wish(0, 0, 7)}, api.Letter{To: 3, Word: wish(0, 0, 7)})
	wantReply(t, c, deliver(1), api.Reply{N: 3})
	wantReply(t, c, timeOut(3), api.Reply{N: 3})
	wantReply(t, c, submit(1, 5), api.Reply{})
	wantReply(t, c, lie(1, propose(0, 0, 4, -1)), api.Reply{N: 3})
	letters := c.Net()
	if len(letters) != 15 {
		t.Fatalf("%d letters", len(letters))
	}
	want := []api.Letter{
		{To: 0, Word: wish(2, 0, 7)}, {To: 1, Word: wish(2, 0, 7)}, {To: 3, Word: wish(2, 0, 7)},
		{To: 0, Word: wish(3, 0, 0)}, {To: 1, Word: wish(3, 0, 0)}, {To: 2, Word: wish(3, 0, 0)},
		{To: 0, Word: wish(1, 0, 4)}, {To: 2, Word: wish(1, 0, 4)}, {To: 3, Word: wish(1, 0, 4)},
	}
	if !slices.Equal(letters[6:], want) {
		t.Fatalf("letters %+v, not %+v", letters[6:], want)
	}
}

// P4.3: there are never more than MaxNet letters; what finds no room is gone, but the node has said it.
func TestFullNet(t *testing.T) {
	old := api.Letter{To: 3, Word: promise(1, 5, 9)}
	for room, want := range []int{0, 1, 2, 3, 4, 5, 6, 6} {
		c := newCrowd(t, -1)
		c.net = slices.Repeat([]api.Letter{old}, api.MaxNet-room)
		wantReply(t, c, submit(0, 7), api.Reply{N: want})
		l := c.Net()
		if len(l) != api.MaxNet-room+want || l[api.MaxNet-room-1] != old {
			t.Fatalf("room %d: %d letters", room, len(l))
		}
		if letters := said(0, propose(0, 0, 7, -1), wish(0, 0, 7)); !slices.Equal(l[api.MaxNet-room:], letters[:want]) {
			t.Fatalf("room %d: letters %+v", room, l[api.MaxNet-room:])
		}
		if s := c.Node(0); s.Step != api.Wished || s.Heard[0].Wishes[0][0] != 8 {
			t.Fatalf("room %d: node 0 is %+v", room, s)
		}
		do(t, c, drop(0))
		wantReply(t, c, timeOut(1), api.Reply{N: min(3, api.MaxNet-len(l)+1)})
	}
}
