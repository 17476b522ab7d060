package crowd

import (
	"math/rand"
	"slices"
	"testing"

	"yokefellow/api"
)

// post delivers letters of a crowd, each of them once.
type post struct {
	t    *testing.T
	c    *Crowd
	come int
}

// deliverNew delivers what has not come yet, and what comes of that; but only what is let through.
func (p *post) deliverNew(lets func(api.Letter) bool) {
	p.t.Helper()
	for ; p.come < len(p.c.Net()); p.come++ {
		if lets(p.c.Net()[p.come]) {
			do(p.t, p.c, deliver(p.come))
		}
	}
}

// deliverWord delivers a word that lies there.
func (p *post) deliverWord(to int, w api.Word) {
	p.t.Helper()
	n := slices.Index(p.c.Net(), api.Letter{To: to, Word: w})
	if n < 0 {
		p.t.Fatalf("there is no letter to node %d of %+v", to, w)
	}
	do(p.t, p.c, deliver(n))
}

func all(api.Letter) bool { return true }

func none(api.Letter) bool { return false }

// among lets letters through between nodes of a list only.
func among(nodes ...int) func(api.Letter) bool {
	return func(l api.Letter) bool { return slices.Contains(nodes, l.To) && slices.Contains(nodes, l.Word.From) }
}

func (p *post) timeOut(nodes ...int) {
	p.t.Helper()
	for _, who := range nodes {
		do(p.t, p.c, timeOut(who))
	}
}

func wantSettled(t *testing.T, c *Crowd, who int, want ...int) {
	t.Helper()
	s := c.Node(who)
	if s.Height != len(want) || !slices.Equal(s.Settled[:len(want)], want) {
		t.Fatalf("node %d has settled %v, not %v", who, s.Settled, want)
	}
}

// Example 1: 7 is submitted to node 0; all letters come, in any order: all four settle 7.
func TestExample1(t *testing.T) {
	for seed := range int64(300) {
		random := rand.New(rand.NewSource(seed))
		c := newCrowd(t, -1)
		wantReply(t, c, submit(0, 7), api.Reply{N: 6})
		var came []bool
		for {
			came = append(came, make([]bool, len(c.Net())-len(came))...)
			var left []int
			for n := range came {
				if !came[n] {
					left = append(left, n)
				}
			}
			if len(left) == 0 {
				break
			}
			n := left[random.Intn(len(left))]
			came[n] = true
			do(t, c, deliver(n))
		}
		for i := range api.Nodes {
			wantSettled(t, c, i, 7)
		}
		wantReply(t, c, read(), api.Reply{Settled: list{7}})
	}
}

// Example 2: node 0 proposes 1 to node 1, and 2 to node 2: neither is wished for by enough; time runs out; node 1 proposes in the next round.
func TestExample2(t *testing.T) {
	c := newCrowd(t, 0)
	p := &post{t: t, c: c}
	wantReply(t, c, lie(1, propose(0, 0, 1, -1)), api.Reply{N: 3})
	wantReply(t, c, lie(2, propose(0, 0, 2, -1)), api.Reply{N: 3})
	do(t, c, submit(1, 5))
	p.deliverNew(all)
	p.timeOut(3)
	p.deliverNew(all)
	for i := 1; i < api.Nodes; i++ {
		if s := c.Node(i); s.Height != 0 || s.Round != 0 || s.Step != api.Wished || s.BoundIn != -1 {
			t.Fatalf("node %d is %+v", i, s)
		}
	}
	p.timeOut(1, 2, 3)
	p.deliverNew(all)
	wantReply(t, c, timeOut(1), api.Reply{N: 6})
	wantNet(t, c, slices.Concat(c.Net()[:p.come], said(1, propose(1, 1, 5, -1), wish(1, 1, 5)))...)
	p.timeOut(2, 3)
	p.deliverNew(all)
	for i := 1; i < api.Nodes; i++ {
		wantSettled(t, c, i, 5)
	}
}

// promised is a crowd where three have promised 7 at height 0, and only the one that is named has heard that.
func promised(t *testing.T, liar, knows int, three ...int) *post {
	t.Helper()
	c := newCrowd(t, liar)
	p := &post{t: t, c: c}
	do(t, c, submit(2, 9))
	do(t, c, submit(0, 7))
	p.deliverNew(func(l api.Letter) bool { return among(three...)(l) && l.Word.Kind != api.Promise })
	for _, from := range three {
		if from != knows {
			p.deliverWord(knows, promise(from, 0, 7))
		}
	}
	for i := range api.Nodes {
		if i == knows {
			wantSettled(t, c, i, 7)
		} else {
			wantSettled(t, c, i)
		}
	}
	return p
}

func wantBound(t *testing.T, c *Crowd, who, round int) {
	t.Helper()
	s := c.Node(who)
	if s.Height != 0 || s.Round != round || s.Bound != 7 || s.BoundIn != 0 || s.Valid != 7 || s.ValidIn != 0 {
		t.Fatalf("node %d is %+v", who, s)
	}
}

// Example 3: three have promised 7, and only node 1 has heard that: it settles 7; whoever comes to a later round is bound to 7, and proposes it, whatever it would have proposed else.
func TestExample3(t *testing.T) {
	p := promised(t, -1, 1, 0, 1, 2)
	left := []int{0, 2, 3}
	p.timeOut(3)
	p.deliverWord(3, wish(0, 0, 7))
	p.deliverWord(3, wish(2, 0, 7))
	p.timeOut(3)
	for _, to := range left {
		for from, value := range map[int]int{0: 7, 2: 7, 3: 0} {
			if from != to {
				p.deliverWord(to, promise(from, 0, value))
			}
		}
	}
	p.come = len(p.c.Net())
	p.timeOut(left...)
	wantBound(t, p.c, 0, 1)
	wantBound(t, p.c, 2, 1)

	// Node 1, who would lead round 1, is at height 1: nothing is proposed there.
	p.timeOut(left...)
	p.deliverNew(among(left...))
	wantReply(t, p.c, timeOut(2), api.Reply{N: 6})
	wantNet(t, p.c, slices.Concat(p.c.Net()[:p.come], said(2, propose(2, 2, 7, 0), wish(2, 2, 7)))...)
	p.timeOut(0, 3)
	p.deliverNew(among(left...))
	wantBound(t, p.c, 0, 2)
	wantSettled(t, p.c, 3)

	// Node 3 believes the proposal once it knows who wished for it in round 0.
	p.deliverWord(3, wish(1, 0, 7))
	p.deliverNew(among(left...))
	for i := range api.Nodes {
		wantSettled(t, p.c, i, 7)
	}
}

// Example 3, with a liar that leads the next round: it can't bring those that are bound to another value.
func TestExample3Liar(t *testing.T) {
	// To wish for 0 is heard as 1; where nothing is wished for yet, there is 0.
	for valid, want := range map[int]struct{ step, own int }{-1: {api.Wished, 1}, 0: {api.Waits, 0}} {
		p := promised(t, 1, 3, 0, 2, 3)
		for _, pair := range [][2]int{{0, 2}, {2, 0}} {
			p.deliverWord(pair[0], promise(pair[1], 0, 7))
			do(t, p.c, lie(pair[0], promise(1, 0, 4)))
			p.timeOut(pair[0])
			do(t, p.c, lie(pair[0], propose(1, 1, 4, valid)))
			wantBound(t, p.c, pair[0], 1)
			s := p.c.Node(pair[0])
			if own := s.Heard[0].Wishes[1][pair[0]]; s.Step != want.step || own != want.own {
				t.Errorf("valid %d: node %d is at step %d, and its wish is heard as %d", valid, pair[0], s.Step, own)
			}
		}
	}
}

// Example 4: the liar tells a client another list: the client takes only what two of them tell.
func TestExample4(t *testing.T) {
	p := promised(t, 2, 1, 0, 1, 2)
	wantReply(t, p.c, read(), api.Reply{})
	wantReply(t, p.c, read(9, 9, 9, 9), api.Reply{})
	wantReply(t, p.c, read(7, 9, 9, 9), api.Reply{Settled: list{7}})
	p.deliverWord(0, promise(1, 0, 7))
	p.deliverWord(0, promise(2, 0, 7))
	wantSettled(t, p.c, 0, 7)
	for _, tell := range []list{{}, {9, 9, 9, 9}, {1}, {7, 5}, {0, 7}, {-1, -1, -1, -1}} {
		wantReply(t, p.c, api.Act{Kind: api.ActRead, N: 1, Tell: tell}, api.Reply{Settled: list{7}})
	}
}

// fate makes up what happens to a crowd.
type fate struct {
	random *rand.Rand
	c      *Crowd
	liar   int
	// come is how many letters came in their order; others come early, twice or never.
	come int
	// calm: there are fates where little but the post happens, so that far heights are reached.
	calm bool
}

// anyAct is mostly one that can be done; now and then one that is wrong.
func (f *fate) anyAct() api.Act {
	a := api.Act{
		Node: f.random.Intn(api.Nodes), N: f.random.Intn(max(1, len(f.c.net))), Value: 1 + f.random.Intn(api.Values),
		Tell: list{f.random.Intn(11) - 1, f.random.Intn(11), f.random.Intn(11), f.random.Intn(11)},
	}
	a.Word = f.anyLie(f.c.nodes[a.Node])
	chance := f.random.Intn(100)
	if f.calm && chance >= 20 {
		chance = 99
	}
	switch {
	case chance < 5:
		a.Kind = api.ActSubmit
	case chance < 9:
		a.Kind = api.ActRead
	case chance < 11:
		a.Kind, a.Node, a.N, a.Word.Kind = f.random.Intn(9), f.random.Intn(7)-1, -f.random.Intn(3), f.random.Intn(5)
	case chance < 13:
		a.Kind = api.ActDrop
	case chance < 25:
		a.Kind = api.ActTime
	case chance < 45:
		a.Kind = api.ActLie
	case chance < 55 || f.come >= len(f.c.net):
		a.Kind = api.ActDeliver
	default:
		a.Kind, a.N = api.ActDeliver, f.come
		f.come++
	}
	return a
}

// anyLie is of where the node that hears it is: what is far from there does little.
func (f *fate) anyLie(s api.Node) api.Word {
	w := api.Word{
		Kind: 1 + f.random.Intn(3), From: f.liar, Height: min(s.Height, api.Heights-1),
		Round: min(s.Round+f.random.Intn(2), api.Rounds-1), Value: f.random.Intn(4),
	}
	if w.Kind == api.Propose {
		w.Value++
		w.Valid = f.random.Intn(w.Round+1) - 1
	}
	return w
}

// wantTrue: no two that are true have settled two things, and each still has settled what it had.
func wantTrue(t *testing.T, c *Crowd, liar int, was *told4, settled *list) {
	t.Helper()
	for i := range api.Nodes {
		if i == liar {
			continue
		}
		s := c.Node(i)
		for height, value := range s.Settled {
			if before := was[i][height]; before != 0 && before != value {
				t.Fatalf("node %d had settled %v, and now %v", i, was[i], s.Settled)
			}
			if settled[height] == 0 {
				settled[height] = value
			}
			if value != 0 && value != settled[height] {
				t.Fatalf("node %d has settled %v, others %v", i, s.Settled, *settled)
			}
		}
		was[i] = s.Settled
	}
}

// The whole: whatever is done, and whoever lies, those that are true settle one thing at a height, what is settled stays so, and a client takes nothing else; and Run answers all of it again.
func TestWhatIsTrueStaysTrue(t *testing.T) {
	reached := 0
	for seed := range int64(400) {
		liar := int(seed)%5 - 1
		c := newCrowd(t, liar)
		f := &fate{random: rand.New(rand.NewSource(seed)), c: c, liar: liar, calm: seed%2 == 0}
		var was told4
		var settled list
		var acts []api.Act
		var replies []api.Reply
		for range api.MaxActs {
			a := f.anyAct()
			letters := len(c.net)
			r := c.Do(a)
			acts, replies = append(acts, a), append(replies, r)
			wantTrue(t, c, liar, &was, &settled)
			if sent := len(c.net) - letters; r.Code == api.OK && a.Kind != api.ActDrop && sent != r.N {
				t.Fatalf("%+v: %d letters were sent, not %d", a, sent, r.N)
			}
			for height, value := range r.Settled {
				if value != 0 && value != settled[height] {
					t.Fatalf("a client takes %v of %v", r.Settled, settled)
				}
			}
		}
		again, e := Run(liar, acts)
		if e != api.OK || !slices.Equal(again, replies) {
			t.Fatalf("seed %d: Run answers something else", seed)
		}
		for _, value := range settled {
			if value != 0 {
				reached++
			}
		}
	}
	if reached < 400 {
		t.Errorf("only %d heights were settled: this tests too little", reached)
	}
}
