package node

import (
	"math/rand"
	"slices"
	"testing"

	"yokefellow/api"
	"yokefellow/votes"
	"yokefellow/wire"
)

// four are nodes that hear one another's words in any order, late, twice or never; liar -1: all are true.
type four struct {
	t       *testing.T
	nodes   [api.Nodes]api.Node
	letters []api.Letter
	liar    int
	random  *rand.Rand
}

func newFour(t *testing.T, liar int, seed int64) *four {
	f := &four{t: t, liar: liar, random: rand.New(rand.NewSource(seed))}
	for i := range f.nodes {
		f.nodes[i] = New()
	}
	return f
}

// take puts down a node's new state, once it is seen to be one that may come behind the old.
func (f *four) take(who int, after api.Node, said []api.Word, e api.Errno) {
	f.t.Helper()
	before := f.nodes[who]
	if e != api.OK || !Good(after) {
		f.t.Fatalf("says %d; good: %v", e, Good(after))
	}
	if after.Height < before.Height || !slices.Equal(before.Settled[:before.Height], after.Settled[:before.Height]) {
		f.t.Fatalf("node %d settled %v, and then %v", who, before.Settled, after.Settled)
	}
	if after.Height < api.Heights {
		f.wantAtRest(who, after)
	}
	f.nodes[who] = after
	for _, w := range said {
		if w.From != who {
			f.t.Fatalf("node %d says %+v", who, w)
		}
		for to := range f.nodes {
			if to != who {
				f.letters = append(f.letters, api.Letter{To: to, Word: w})
			}
		}
	}
}

// wantAtRest: what follows was gone through to its end, so that a word that is no news brings nothing.
func (f *four) wantAtRest(who int, s api.Node) {
	f.t.Helper()
	late := wish(who, s.Height, s.Round, 0)
	if s.Heard[s.Height].Wishes[s.Round][who] == 0 {
		return
	}
	if again, said, _ := Hear(s, who, late); len(said) != 0 || !same(again, s) {
		f.t.Fatalf("node %d is not at rest: it says %+v", who, said)
	}
}

func (f *four) hear(to int, w api.Word) {
	f.t.Helper()
	after, said, e := Hear(f.nodes[to], to, w)
	f.take(to, after, said, e)
}

func (f *four) time(who int) {
	f.t.Helper()
	after, said, e := Time(f.nodes[who], who)
	f.take(who, after, said, e)
}

func (f *four) submit(who, value int) {
	f.t.Helper()
	if len(f.nodes[who].Queue) < api.MaxQueue {
		after, said, e := Submit(f.nodes[who], who, value)
		f.take(who, after, said, e)
	}
}

// deliver takes a letter away, or leaves it, so that it comes again.
func (f *four) deliver(at int, again bool) {
	f.t.Helper()
	letter := f.letters[at]
	if !again {
		f.letters = slices.Delete(f.letters, at, at+1)
	}
	f.hear(letter.To, letter.Word)
}

// lie is a good word of the liar's, most likely one that matters where its hearer is.
func (f *four) lie(to int) {
	f.t.Helper()
	height := min(f.nodes[to].Height, api.Heights-1)
	round := min(f.nodes[to].Round+f.random.Intn(2), api.Rounds-1)
	value := 1 + f.random.Intn(3)
	switch f.random.Intn(3) {
	case 0:
		f.hear(to, propose(f.liar, height, round, value, f.random.Intn(round+1)-1))
	case 1:
		f.hear(to, wish(f.liar, height, round, value*f.random.Intn(2)))
	case 2:
		f.hear(to, promise(f.liar, height, round, value*f.random.Intn(2)))
	}
}

func (f *four) act() {
	f.t.Helper()
	who := f.random.Intn(api.Nodes)
	switch n := f.random.Intn(40); {
	case n < 2:
		f.submit(who, 1+f.random.Intn(3))
	case n < 5:
		f.time(who)
	case n < 12 && f.liar >= 0 && who != f.liar:
		f.lie(who)
	case n < 13 && len(f.letters) > 0:
		f.letters = slices.Delete(f.letters, 0, 1)
	case len(f.letters) > 0:
		f.deliver(f.random.Intn(len(f.letters)), n%5 == 0)
	}
}

// wantAgreement: no two that are true settled two things at one height.
func (f *four) wantAgreement() {
	f.t.Helper()
	var settled [api.Heights]int
	for i, s := range f.nodes {
		for height, value := range s.Settled {
			if i == f.liar || value == 0 {
				continue
			}
			if settled[height] != 0 && settled[height] != value {
				f.t.Fatalf("height %d: both %d and %d are settled", height, settled[height], value)
			}
			settled[height] = value
		}
	}
}

// P3.4 to P3.10 together: whatever comes, in whatever order, those that are true agree.
func TestFourAgree(t *testing.T) {
	settled := 0
	for seed := range int64(200) {
		f := newFour(t, int(seed%5)-1, seed)
		for range 1200 {
			f.act()
		}
		f.wantAgreement()
		for _, s := range f.nodes {
			settled += s.Height
		}
	}
	if settled < 500 {
		t.Errorf("only %d were settled: the test asks for too little", settled)
	}
}

// anyNode is a good node, though not always one to which words lead.
func anyNode(random *rand.Rand) api.Node {
	s := New()
	s.Height, s.Round, s.Step = random.Intn(api.Heights+1), random.Intn(api.Rounds), random.Intn(3)
	for i := range s.Height {
		s.Settled[i] = 1 + random.Intn(api.Values)
	}
	if random.Intn(2) == 0 {
		s.Bound, s.BoundIn = 1+random.Intn(2), random.Intn(s.Round+1)
	}
	if random.Intn(2) == 0 {
		s.Valid, s.ValidIn = 1+random.Intn(2), random.Intn(s.Round+1)
	}
	for i := range s.Seen {
		s.Seen[i] = random.Intn(2) == 0
	}
	for range random.Intn(api.MaxQueue + 1) {
		s.Queue = append(s.Queue, 1+random.Intn(3))
	}
	for range random.Intn(60) {
		w := anyWord(random)
		s.Heard[w.Height] = votes.Hear(s.Heard[w.Height], w)
	}
	return s
}

// anyWord is mostly of few rounds and values, so that several say alike.
func anyWord(random *rand.Rand) api.Word {
	height, round := random.Intn(api.Heights), min(random.Intn(api.Rounds), random.Intn(api.Rounds))
	if random.Intn(4) == 0 {
		return propose(wire.Leader(height, round), height, round, 1+random.Intn(2), random.Intn(round+1)-1)
	}
	if random.Intn(2) == 0 {
		return wish(random.Intn(api.Nodes), height, round, random.Intn(3))
	}
	return promise(random.Intn(api.Nodes), height, round, random.Intn(3))
}

// 'What holds everywhere': all calls end at all good nodes, none of them breaks one, and none hangs on more than it is given.
func TestAllGoodNodes(t *testing.T) {
	random := rand.New(rand.NewSource(1))
	for range 20000 {
		s, who, w, value := anyNode(random), random.Intn(api.Nodes), anyWord(random), random.Intn(api.Values+2)
		for name, call := range map[string]func() (api.Node, []api.Word, api.Errno){
			"Hear":   func() (api.Node, []api.Word, api.Errno) { return Hear(s, who, w) },
			"Submit": func() (api.Node, []api.Word, api.Errno) { return Submit(s, who, value) },
			"Time":   func() (api.Node, []api.Word, api.Errno) { return Time(s, who) },
		} {
			after, said, e := call()
			again, saidAgain, eAgain := call()
			if !Good(after) || after.Height < s.Height {
				t.Fatalf("%s of %+v by %d: %+v", name, s, who, after)
			}
			if !same(after, again) || !slices.Equal(said, saidAgain) || e != eAgain {
				t.Fatalf("%s of %+v by %d answers two things", name, s, who)
			}
		}
	}
}

// The whole's first example: 7 is submitted to node 0, and all letters come, in any order.
func TestFourSettleWhatIsSubmitted(t *testing.T) {
	for seed := range int64(50) {
		f := newFour(t, -1, seed)
		f.submit(0, 7)
		for len(f.letters) > 0 {
			f.deliver(f.random.Intn(len(f.letters)), false)
		}
		for i, s := range f.nodes {
			if s.Settled != [api.Heights]int{7} || s.Height != 1 || len(s.Queue) != 0 {
				t.Fatalf("seed %d: node %d settled %v", seed, i, s.Settled)
			}
		}
	}
}

// The whole's second example: node 0 proposes 1 to node 1, and 2 to node 2.
func TestFourGoOnBehindALiar(t *testing.T) {
	f := newFour(t, 0, 1)
	f.submit(1, 5)
	f.hear(1, propose(0, 0, 0, 1, -1))
	f.hear(2, propose(0, 0, 0, 2, -1))
	for f.nodes[1].Round == 0 {
		for len(f.letters) > 0 {
			f.deliver(0, false)
		}
		for who := 1; who < api.Nodes; who++ {
			f.time(who)
		}
	}
	if f.nodes[1].BoundIn != -1 || f.nodes[1].Heard[0].Calls[1] != (api.Call{Is: true, Value: 5, Valid: -1}) {
		t.Errorf("node 1 is %+v", f.nodes[1])
	}
	for len(f.letters) > 0 {
		f.deliver(0, false)
	}
	for who := 1; who < api.Nodes; who++ {
		if f.nodes[who].Settled[0] != 5 {
			t.Errorf("node %d settled %v", who, f.nodes[who].Settled)
		}
	}
}

// The whole's third example: only node 1 hears that three have promised 7; the others come to a later round.
func TestFourStayBound(t *testing.T) {
	f := newFour(t, 3, 1)
	f.submit(0, 7)
	f.submit(2, 4)
	f.submit(1, 6)
	for at := 0; at < len(f.letters); {
		if letter := f.letters[at]; letter.Word.Kind == api.Promise && letter.To != 1 || letter.To == 3 {
			at++
			continue
		}
		f.deliver(at, false)
	}
	if f.nodes[1].Settled[0] != 7 || f.nodes[0].Bound != 7 || f.nodes[2].Bound != 7 {
		t.Fatalf("nodes are %+v", f.nodes)
	}
	// Round 2 is led by node 2, whose queue begins with 4.
	f.letters = nil
	for _, who := range []int{0, 2} {
		f.hear(who, wish(3, 0, 2, 0))
		f.hear(who, wish(1, 0, 2, 0))
	}
	if !slices.Contains(f.letters, api.Letter{To: 0, Word: propose(2, 0, 2, 7, 0)}) {
		t.Errorf("letters are %+v", f.letters)
	}
}
