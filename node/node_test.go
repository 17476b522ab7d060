package node

import (
	"math"
	"reflect"
	"slices"
	"testing"

	"yokefellow/api"
	"yokefellow/votes"
)

func propose(from, height, round, value, valid int) api.Word {
	return api.Word{Kind: api.Propose, From: from, Height: height, Round: round, Value: value, Valid: valid}
}

func wish(from, height, round, value int) api.Word {
	return api.Word{Kind: api.Wish, From: from, Height: height, Round: round, Value: value}
}

func promise(from, height, round, value int) api.Word {
	return api.Word{Kind: api.Promise, From: from, Height: height, Round: round, Value: value}
}

// all is what several say alike.
func all(say func(from, height, round, value int) api.Word, height, round, value int, from ...int) []api.Word {
	var l []api.Word
	for _, i := range from {
		l = append(l, say(i, height, round, value))
	}
	return l
}

// knowing is a new node, changed, on whose sheets words are laid; nothing has followed of them.
func knowing(change func(*api.Node), lists ...[]api.Word) api.Node {
	s := New()
	if change != nil {
		change(&s)
	}
	for _, w := range slices.Concat(lists...) {
		s.Heard[w.Height] = votes.Hear(s.Heard[w.Height], w)
	}
	return s
}

// same does not tell a list without elements from none.
func same(a, b api.Node) bool {
	if !slices.Equal(a.Queue, b.Queue) {
		return false
	}
	a.Queue, b.Queue = nil, nil
	return reflect.DeepEqual(a, b)
}

// mustHear hands words to a node one by one; what it says is gathered.
func mustHear(t *testing.T, s api.Node, who int, l ...api.Word) (api.Node, []api.Word) {
	t.Helper()
	var said []api.Word
	for _, w := range l {
		after, words, e := Hear(s, who, w)
		if e != api.OK {
			t.Fatalf("Hear(%+v) says %d", w, e)
		}
		s, said = after, append(said, words...)
	}
	return s, said
}

func mustTime(t *testing.T, s api.Node, who int) (api.Node, []api.Word) {
	t.Helper()
	after, words, e := Time(s, who)
	if e != api.OK {
		t.Fatalf("Time says %d", e)
	}
	return after, words
}

func mustSubmit(t *testing.T, s api.Node, who, value int) (api.Node, []api.Word) {
	t.Helper()
	after, words, e := Submit(s, who, value)
	if e != api.OK {
		t.Fatalf("Submit(%d) says %d", value, e)
	}
	return after, words
}

func wantSaid(t *testing.T, got []api.Word, want ...api.Word) {
	t.Helper()
	if !slices.Equal(got, want) {
		t.Errorf("said %+v, want %+v", got, want)
	}
}

func wantNode(t *testing.T, got, want api.Node) {
	t.Helper()
	if !same(got, want) {
		t.Errorf("node is\n%+v, want\n%+v", got, want)
	}
}

// P3.1
func TestNew(t *testing.T) {
	want := api.Node{BoundIn: -1, ValidIn: -1}
	wantNode(t, New(), want)
	if !Good(New()) {
		t.Error("a new node is not good")
	}
}

// P3.1
func TestGood(t *testing.T) {
	settled := [api.Heights]int{1, 9, 2, 3}
	cases := map[string]struct {
		change func(*api.Node)
		want   bool
	}{
		"new":                         {func(s *api.Node) {}, true},
		"zero value":                  {func(s *api.Node) { *s = api.Node{} }, false},
		"height below 0":              {func(s *api.Node) { s.Height = -1 }, false},
		"all heights settled":         {func(s *api.Node) { s.Height, s.Settled = api.Heights, settled }, true},
		"height beyond":               {func(s *api.Node) { s.Height, s.Settled = api.Heights+1, settled }, false},
		"last round":                  {func(s *api.Node) { s.Round = api.Rounds - 1 }, true},
		"no such round":               {func(s *api.Node) { s.Round = api.Rounds }, false},
		"round below 0":               {func(s *api.Node) { s.Round = -1 }, false},
		"wished":                      {func(s *api.Node) { s.Step = api.Wished }, true},
		"promised":                    {func(s *api.Node) { s.Step = api.Promised }, true},
		"no such step":                {func(s *api.Node) { s.Step = api.Promised + 1 }, false},
		"step below 0":                {func(s *api.Node) { s.Step = -1 }, false},
		"bound, no round":             {func(s *api.Node) { s.Bound = 1 }, false},
		"round, not bound":            {func(s *api.Node) { s.BoundIn = 0 }, false},
		"bound in this round":         {func(s *api.Node) { s.Round, s.Bound, s.BoundIn = 2, 1, 2 }, true},
		"bound in the first round":    {func(s *api.Node) { s.Round, s.Bound, s.BoundIn = 2, 9, 0 }, true},
		"bound in a later round":      {func(s *api.Node) { s.Round, s.Bound, s.BoundIn = 2, 1, 3 }, false},
		"bound ahead of all rounds":   {func(s *api.Node) { s.Bound, s.BoundIn = 1, -2 }, false},
		"not bound, round -2":         {func(s *api.Node) { s.BoundIn = -2 }, false},
		"bound to no value":           {func(s *api.Node) { s.Bound, s.BoundIn = api.Values+1, 0 }, false},
		"bound below 0":               {func(s *api.Node) { s.Bound, s.BoundIn = -1, 0 }, false},
		"valid, no round":             {func(s *api.Node) { s.Valid = 1 }, false},
		"round, none valid":           {func(s *api.Node) { s.ValidIn = 0 }, false},
		"valid in this round":         {func(s *api.Node) { s.Round, s.Valid, s.ValidIn = 2, 1, 2 }, true},
		"valid in a later round":      {func(s *api.Node) { s.Round, s.Valid, s.ValidIn = 2, 1, 3 }, false},
		"valid ahead of all rounds":   {func(s *api.Node) { s.Valid, s.ValidIn = 1, -2 }, false},
		"valid is no value":           {func(s *api.Node) { s.Valid, s.ValidIn = api.Values+1, 0 }, false},
		"bound later than valid":      {func(s *api.Node) { s.Round, s.Bound, s.BoundIn, s.Valid, s.ValidIn = 3, 1, 3, 2, 1 }, true},
		"all rounds seen":             {func(s *api.Node) { s.Seen = [api.Rounds]bool{true, true, true, true, true, true} }, true},
		"first sheet not good":        {func(s *api.Node) { s.Heard[0].Calls[0].Value = 1 }, false},
		"last sheet not good":         {func(s *api.Node) { s.Heard[api.Heights-1].Promises[api.Rounds-1][3] = -1 }, false},
		"sheet of a later height":     {func(s *api.Node) { s.Heard[3].Wishes[5] = api.Votes{1, 10, 0, 7} }, true},
		"settled below its height":    {func(s *api.Node) { s.Height, s.Settled = 2, [api.Heights]int{1, 9} }, true},
		"one not settled below":       {func(s *api.Node) { s.Height, s.Settled = 2, [api.Heights]int{0, 9} }, false},
		"last not settled below":      {func(s *api.Node) { s.Height, s.Settled = 2, [api.Heights]int{1} }, false},
		"settled is no value":         {func(s *api.Node) { s.Height, s.Settled = 2, [api.Heights]int{1, 10} }, false},
		"settled is below 0":          {func(s *api.Node) { s.Height, s.Settled = 1, [api.Heights]int{-1} }, false},
		"settled at its height":       {func(s *api.Node) { s.Settled[0] = 1 }, false},
		"settled beyond its height":   {func(s *api.Node) { s.Settled[api.Heights-1] = 1 }, false},
		"below 0 beyond its height":   {func(s *api.Node) { s.Settled[1] = -1 }, false},
		"full queue":                  {func(s *api.Node) { s.Queue = []int{1, 9, 1, 9, 5, 5} }, true},
		"queue too long":              {func(s *api.Node) { s.Queue = []int{1, 2, 3, 4, 5, 6, 7} }, false},
		"empty queue":                 {func(s *api.Node) { s.Queue = []int{} }, true},
		"0 in the queue":              {func(s *api.Node) { s.Queue = []int{1, 0} }, false},
		"no value in the queue":       {func(s *api.Node) { s.Queue = []int{api.Values + 1} }, false},
		"least numbers":               {func(s *api.Node) { s.Height, s.Round = math.MinInt, math.MinInt }, false},
		"greatest numbers":            {func(s *api.Node) { s.Height, s.Round = math.MaxInt, math.MaxInt }, false},
		"valid and bound at the most": {func(s *api.Node) { s.BoundIn, s.ValidIn = math.MaxInt, math.MinInt }, false},
	}
	for name, c := range cases {
		if got := Good(knowing(c.change)); got != c.want {
			t.Errorf("%s: Good is %v, want %v", name, got, c.want)
		}
	}
}

// P3.2
func TestSaysOfItself(t *testing.T) {
	s := knowing(func(s *api.Node) { s.Height, s.Settled, s.Round = 1, [api.Heights]int{5}, 2 })
	after, said := mustSubmit(t, s, 3, 7)
	wantSaid(t, said, propose(3, 1, 2, 7, -1), wish(3, 1, 2, 7))
	want := knowing(func(s *api.Node) {
		s.Height, s.Settled, s.Round, s.Step, s.Queue = 1, [api.Heights]int{5}, 2, api.Wished, []int{7}
	}, said)
	wantNode(t, after, want)
}

// P3.2: what it was heard to say first stays on its sheet; what it says is answered all the same.
func TestSaysWhatItHasSaid(t *testing.T) {
	s, said := mustHear(t, New(), 1, wish(1, 0, 0, 5))
	wantSaid(t, said)
	s, said = mustTime(t, s, 1)
	wantSaid(t, said, wish(1, 0, 0, 0))
	if got := s.Heard[0].Wishes[0]; got != (api.Votes{0, 6, 0, 0}) {
		t.Errorf("wishes are %v", got)
	}
}

// P3.2: the words of one call stand in the order in which they were said.
func TestSaysInOrder(t *testing.T) {
	s := knowing(func(s *api.Node) { s.Queue = []int{7} },
		all(wish, 0, 0, 7, 1, 2), all(promise, 0, 0, 7, 1, 2), all(wish, 1, 0, 4, 0, 2, 3), []api.Word{propose(1, 1, 0, 4, -1)})
	after, said := mustSubmit(t, s, 0, 8)
	wantSaid(t, said, propose(0, 0, 0, 7, -1), wish(0, 0, 0, 7), promise(0, 0, 0, 7), wish(0, 1, 0, 4), promise(0, 1, 0, 4))
	if after.Height != 1 || after.Step != api.Promised || after.Bound != 4 || after.BoundIn != 0 {
		t.Errorf("node is %+v", after)
	}
}

// P3.3: a node comes from round 0 to round 1 of height 0, which node 1 leads.
func TestEnters(t *testing.T) {
	valid := func(s *api.Node) { s.Valid, s.ValidIn, s.Seen[0] = 6, 0, true }
	queue := func(s *api.Node) { s.Queue = []int{3, 4} }
	both := func(s *api.Node) { valid(s); queue(s) }
	wished6 := all(wish, 0, 0, 6, 0, 2, 3)
	cases := map[string]struct {
		change func(*api.Node)
		who    int
		extra  []api.Word
		want   []api.Word
	}{
		"leader, nothing to propose": {nil, 1, nil, nil},
		"leader, queue":              {queue, 1, nil, []api.Word{propose(1, 0, 1, 3, -1), wish(1, 0, 1, 3)}},
		"leader, valid":              {valid, 1, wished6, []api.Word{propose(1, 0, 1, 6, 0), wish(1, 0, 1, 6)}},
		"leader, both":               {both, 1, wished6, []api.Word{propose(1, 0, 1, 6, 0), wish(1, 0, 1, 6)}},
		"leader, wishes not heard":   {both, 1, nil, []api.Word{propose(1, 0, 1, 6, 0)}},
		"leader, call is there":      {both, 1, []api.Word{propose(1, 0, 1, 5, -1)}, []api.Word{wish(1, 0, 1, 5)}},
		"no leader, queue":           {queue, 2, nil, nil},
		"no leader, both":            {both, 0, wished6, nil},
	}
	for name, c := range cases {
		s := knowing(func(s *api.Node) {
			if c.change != nil {
				c.change(s)
			}
			s.Step = api.Promised
		}, all(promise, 0, 0, 0, 0, 1, 3), c.extra)
		after, said := mustTime(t, s, c.who)
		if !slices.Equal(said, c.want) {
			t.Errorf("%s: said %+v, want %+v", name, said, c.want)
		}
		wantStep := api.Waits
		if len(said) > 0 && said[len(said)-1].Kind == api.Wish {
			wantStep = api.Wished
		}
		if after.Round != 1 || after.Step != wantStep || !slices.Equal(after.Queue, s.Queue) {
			t.Errorf("%s: round %d, step %d, queue %v", name, after.Round, after.Step, after.Queue)
		}
	}
}

// P3.4
func TestSettles(t *testing.T) {
	s := knowing(func(s *api.Node) {
		s.Round, s.Step, s.Bound, s.BoundIn, s.Valid, s.ValidIn = 2, api.Promised, 7, 0, 7, 1
		s.Seen = [api.Rounds]bool{true, true, true}
		s.Queue = []int{7, 3, 7, 4, 7}
	}, []api.Word{propose(0, 0, 0, 7, -1)}, all(promise, 0, 0, 7, 0, 3))
	after, said := mustHear(t, s, 0, promise(2, 0, 0, 7))
	wantSaid(t, said)
	want := knowing(func(s *api.Node) {
		s.Height, s.Settled, s.Queue = 1, [api.Heights]int{7}, []int{3, 4}
	}, []api.Word{propose(0, 0, 0, 7, -1)}, all(promise, 0, 0, 7, 0, 2, 3))
	wantNode(t, after, want)
}

// P3.4: who leads round 0 of the next height proposes there at once, of what is left.
func TestSettlesAndProposes(t *testing.T) {
	s := knowing(func(s *api.Node) { s.Round, s.Queue = 3, []int{7, 7, 2} },
		[]api.Word{propose(1, 0, 5, 7, -1)}, all(promise, 0, 5, 7, 0, 3))
	after, said := mustHear(t, s, 1, promise(1, 0, 5, 7))
	wantSaid(t, said, propose(1, 1, 0, 2, -1), wish(1, 1, 0, 2))
	if after.Height != 1 || after.Round != 0 || after.Step != api.Wished || !slices.Equal(after.Queue, []int{2}) {
		t.Errorf("node is %+v", after)
	}
}

// P3.4: what does not settle anything.
func TestDoesNotSettle(t *testing.T) {
	call := []api.Word{propose(0, 0, 0, 7, -1)}
	cases := map[string][]api.Word{
		"two have promised":    slices.Concat(call, all(promise, 0, 0, 7, 0, 1)),
		"something else":       slices.Concat(call, all(promise, 0, 0, 6, 0, 1, 2)),
		"promised 0":           slices.Concat(call, all(promise, 0, 0, 0, 0, 1, 2, 3)),
		"0 without a call":     all(promise, 0, 0, 0, 0, 1, 2, 3),
		"value without a call": all(promise, 0, 0, 7, 0, 1, 2, 3),
		"in two rounds":        slices.Concat(call, all(promise, 0, 0, 7, 0, 1), all(promise, 0, 1, 7, 2)),
		"of another height":    slices.Concat(call, all(promise, 1, 0, 7, 0, 1, 2)),
		"only wishes":          slices.Concat(call, all(wish, 0, 0, 7, 1, 2)),
	}
	for name, l := range cases {
		if after, _ := mustHear(t, New(), 3, l...); after.Height != 0 || after.Settled != [api.Heights]int{} {
			t.Errorf("%s: settled %v", name, after.Settled)
		}
	}
}

// P3.4: of several rounds the first.
func TestSettlesTheFirst(t *testing.T) {
	s := knowing(nil, []api.Word{propose(1, 0, 1, 5, -1), propose(3, 0, 3, 6, -1)},
		all(promise, 0, 1, 5, 0, 1, 2), all(promise, 0, 3, 6, 0, 1, 2))
	after, _ := mustHear(t, s, 3, wish(0, 3, 0, 0))
	if after.Settled != [api.Heights]int{5} || after.Height != 1 {
		t.Errorf("settled %v", after.Settled)
	}
}

// P3.4: a call that comes behind the promises settles, too.
func TestSettlesByTheCall(t *testing.T) {
	s, _ := mustHear(t, New(), 3, all(promise, 0, 4, 5, 0, 1, 2)...)
	if s.Height != 0 || s.Round != 4 {
		t.Fatalf("node is %+v", s)
	}
	s, said := mustHear(t, s, 3, propose(0, 0, 4, 5, -1))
	wantSaid(t, said)
	if s.Height != 1 || s.Round != 0 || s.Settled[0] != 5 {
		t.Errorf("node is %+v", s)
	}
}

// P3.4: behind the last height nothing is proposed, nor does anything follow.
func TestSettlesTheLast(t *testing.T) {
	settled := [api.Heights]int{1, 2, 3}
	s := knowing(func(s *api.Node) {
		s.Height, s.Settled, s.Round, s.Step, s.Queue = 3, settled, 1, api.Promised, []int{4, 5}
		s.Bound, s.BoundIn, s.Valid, s.ValidIn, s.Seen[1] = 4, 1, 4, 1, true
	}, []api.Word{propose(0, 3, 1, 4, -1)}, all(promise, 3, 1, 4, 0, 1))
	for who := range api.Nodes {
		after, said := mustHear(t, s, who, promise(3, 3, 1, 4))
		wantSaid(t, said)
		want := New()
		want.Height, want.Settled, want.Queue, want.Heard = 4, [api.Heights]int{1, 2, 3, 4}, []int{5}, after.Heard
		wantNode(t, after, want)
		if !Good(after) {
			t.Errorf("who %d: not good", who)
		}
	}
}

// P3.4: what was heard of later heights is not heard in vain.
func TestSettlesAllAtOnce(t *testing.T) {
	var later []api.Word
	for height := range api.Heights {
		later = append(later, propose(height, height, 0, height+1, -1))
		later = append(later, all(promise, height, 0, height+1, 1, 2)...)
		if height > 0 {
			later = append(later, promise(3, height, 0, height+1))
		}
	}
	s, said := mustHear(t, New(), 0, later...)
	wantSaid(t, said, wish(0, 0, 0, 1))
	s, said = mustHear(t, s, 0, promise(3, 0, 0, 1))
	wantSaid(t, said)
	if s.Height != api.Heights || s.Settled != [api.Heights]int{1, 2, 3, 4} || s.Round != 0 || s.Step != api.Waits {
		t.Errorf("node is %+v", s)
	}
}

// P3.5
func TestCatchesUp(t *testing.T) {
	cases := map[string]struct {
		from, who int
		heard     []api.Word
		want      int
	}{
		"two wishes":                 {0, 0, all(wish, 0, 2, 0, 1, 3), 2},
		"two promises":               {0, 0, all(promise, 0, 5, 0, 1, 3), 5},
		"one of each":                {0, 0, []api.Word{wish(1, 0, 1, 4), promise(2, 0, 1, 0)}, 1},
		"one alone":                  {0, 0, []api.Word{wish(1, 0, 1, 4)}, 0},
		"one twice":                  {0, 0, []api.Word{wish(1, 0, 1, 4), promise(1, 0, 1, 4)}, 0},
		"one in two rounds":          {0, 0, []api.Word{wish(1, 0, 1, 4), wish(2, 0, 2, 4)}, 0},
		"one wish and a call":        {0, 0, []api.Word{propose(1, 0, 1, 4, -1), wish(2, 0, 1, 4)}, 0},
		"the last of several":        {0, 0, slices.Concat(all(wish, 0, 4, 0, 1, 3), all(wish, 0, 2, 0, 1, 3), all(wish, 0, 3, 0, 2, 3)), 4},
		"not the last that is heard": {0, 0, slices.Concat(all(wish, 0, 2, 0, 1, 3), all(wish, 0, 5, 0, 1)), 2},
		"this round":                 {3, 0, all(wish, 0, 3, 0, 1, 2), 3},
		"an earlier round":           {3, 0, all(wish, 0, 2, 0, 1, 2, 3), 3},
		"another height":             {0, 0, all(wish, 1, 2, 0, 1, 2, 3), 0},
	}
	for name, c := range cases {
		s := knowing(func(s *api.Node) { s.Round, s.Step = c.from, api.Promised }, c.heard)
		after, said := mustHear(t, s, c.who, wish(0, 3, 0, 0))
		wantStep := api.Promised
		if c.want != c.from {
			wantStep = api.Waits
		}
		if after.Round != c.want || after.Step != wantStep || len(said) != 0 {
			t.Errorf("%s: round %d, step %d, said %+v; want round %d", name, after.Round, after.Step, said, c.want)
		}
	}
}

// P3.5: the leader of the round to which it comes proposes there, and what stands in the rounds between is left.
func TestCatchesUpAndProposes(t *testing.T) {
	s := knowing(func(s *api.Node) { s.Queue = []int{8} }, all(wish, 0, 3, 0, 1), []api.Word{propose(0, 0, 0, 7, -1)})
	after, said := mustHear(t, s, 3, wish(2, 0, 3, 0))
	wantSaid(t, said, propose(3, 0, 3, 8, -1), wish(3, 0, 3, 8))
	if after.Round != 3 || after.Heard[0].Wishes[0] != (api.Votes{}) {
		t.Errorf("node is %+v", after)
	}
}

// P3.4 and P3.5: settling comes first.
func TestSettlesBeforeItCatchesUp(t *testing.T) {
	s := knowing(func(s *api.Node) { s.Queue = []int{8} },
		all(wish, 0, 3, 0, 1, 2), []api.Word{propose(0, 0, 0, 7, -1)}, all(promise, 0, 0, 7, 0, 1))
	after, said := mustHear(t, s, 3, promise(2, 0, 0, 7))
	wantSaid(t, said)
	if after.Height != 1 || after.Round != 0 {
		t.Errorf("node is %+v", after)
	}

	s = knowing(func(s *api.Node) { s.Queue = []int{8} },
		all(wish, 0, 3, 0, 1, 2), []api.Word{propose(1, 0, 1, 7, -1)}, all(promise, 0, 1, 7, 0, 1, 2))
	after, said = mustHear(t, s, 3, wish(0, 3, 0, 0))
	wantSaid(t, said)
	if after.Height != 1 || after.Heard[0].Calls[3].Is {
		t.Errorf("node is %+v", after)
	}
}

// P3.6: a call is heard in round 3, which node 3 leads.
func TestAnswersACall(t *testing.T) {
	none := []api.Word(nil)
	cases := map[string]struct {
		bound, boundIn int
		value, valid   int
		wished         []api.Word
		want           int // -1: nothing is said
	}{
		"not bound":                          {0, -1, 5, -1, none, 5},
		"bound to it":                        {5, 2, 5, -1, none, 5},
		"bound to something else":            {4, 0, 5, -1, none, 0},
		"valid, wished for by three":         {0, -1, 5, 1, all(wish, 0, 1, 5, 0, 1, 2), 5},
		"valid, wished for by four":          {0, -1, 5, 0, all(wish, 0, 0, 5, 0, 1, 2, 3), 5},
		"valid, wished for by two":           {0, -1, 5, 1, all(wish, 0, 1, 5, 0, 1), -1},
		"valid, wished for in another":       {0, -1, 5, 1, all(wish, 0, 2, 5, 0, 1, 2), -1},
		"valid, wished for something else":   {0, -1, 5, 1, all(wish, 0, 1, 4, 0, 1, 2), -1},
		"valid, only promised":               {0, -1, 5, 1, all(promise, 0, 1, 5, 0, 1, 2), -1},
		"valid, bound to it, by two":         {5, 2, 5, 1, all(wish, 0, 1, 5, 0, 1), -1},
		"valid later than bound":             {4, 0, 5, 1, all(wish, 0, 1, 5, 0, 1, 2), 5},
		"valid in the round of being bound":  {4, 1, 5, 1, all(wish, 0, 1, 5, 0, 1, 2), 5},
		"valid ahead of being bound":         {4, 2, 5, 1, all(wish, 0, 1, 5, 0, 1, 2), 0},
		"valid ahead of being bound to that": {5, 2, 5, 1, all(wish, 0, 1, 5, 0, 1, 2), 5},
	}
	for name, c := range cases {
		s := knowing(func(s *api.Node) {
			s.Round, s.Bound, s.BoundIn = 3, c.bound, c.boundIn
			s.Seen = [api.Rounds]bool{true, true, true}
		}, c.wished)
		after, said := mustHear(t, s, 0, propose(3, 0, 3, c.value, c.valid))
		want, wantStep := []api.Word{wish(0, 0, 3, c.want)}, api.Wished
		if c.want < 0 {
			want, wantStep = nil, api.Waits
		}
		if !slices.Equal(said, want) || after.Step != wantStep || after.Round != 3 {
			t.Errorf("%s: said %+v, step %d, round %d; want %+v", name, said, after.Step, after.Round, want)
		}
	}
}

// P3.6: wishes of an earlier round may come behind the call that needs them.
func TestAnswersACallLater(t *testing.T) {
	s := knowing(func(s *api.Node) { s.Round = 1 }, all(wish, 0, 0, 5, 0, 3))
	s, said := mustHear(t, s, 2, propose(1, 0, 1, 5, 0))
	wantSaid(t, said)
	_, said = mustHear(t, s, 2, wish(1, 0, 0, 5))
	wantSaid(t, said, wish(2, 0, 1, 5))
}

// P3.6: it answers a call once, and only that of its round.
func TestAnswersACallOnce(t *testing.T) {
	for _, step := range []int{api.Wished, api.Promised} {
		s := knowing(func(s *api.Node) { s.Step = step })
		after, said := mustHear(t, s, 1, propose(0, 0, 0, 7, -1))
		wantSaid(t, said)
		if after.Step != step {
			t.Errorf("step is %d, want %d", after.Step, step)
		}
	}
	for _, w := range []api.Word{propose(1, 0, 1, 7, -1), propose(1, 1, 0, 7, -1), propose(2, 0, 0, 7, -1)} {
		after, said := mustHear(t, New(), 2, w)
		if len(said) != 0 || after.Step != api.Waits {
			t.Errorf("%+v: said %+v", w, said)
		}
	}
}

// P3.7: what a node in round 2 does where wishes are heard of there.
func TestAnswersWishes(t *testing.T) {
	call := []api.Word{propose(2, 0, 2, 5, -1)}
	old := func(s *api.Node) { s.Bound, s.BoundIn, s.Valid, s.ValidIn = 4, 0, 4, 1 }
	seen := func(s *api.Node) { old(s); s.Seen[2] = true }
	promised := func(s *api.Node) { old(s); s.Step, s.Seen[2], s.Valid, s.ValidIn = api.Promised, true, 5, 2 }
	bound := func(s *api.Node) { promised(s); s.Bound, s.BoundIn = 5, 2 }
	cases := map[string]struct {
		step    int
		before  func(*api.Node)
		heard   []api.Word
		after   func(*api.Node) // nil: nothing comes of it
		promise int             // -1: nothing is said
	}{
		"wished, three for 0":          {api.Wished, old, all(wish, 0, 2, 0, 1, 2, 3), func(s *api.Node) { old(s); s.Step = api.Promised }, 0},
		"wished, 0, call":              {api.Wished, old, slices.Concat(call, all(wish, 0, 2, 0, 1, 2, 3)), func(s *api.Node) { old(s); s.Step = api.Promised }, 0},
		"wished, two for 0":            {api.Wished, old, all(wish, 0, 2, 0, 1, 2), nil, -1},
		"promised, three for 0":        {api.Promised, old, all(wish, 0, 2, 0, 1, 2, 3), nil, -1},
		"wished, three for it":         {api.Wished, old, slices.Concat(call, all(wish, 0, 2, 5, 1, 2, 3)), bound, 5},
		"wished, four for it":          {api.Wished, old, slices.Concat(call, all(wish, 0, 2, 5, 0, 1, 2, 3)), bound, 5},
		"wished, two for it":           {api.Wished, old, slices.Concat(call, all(wish, 0, 2, 5, 1, 2)), nil, -1},
		"wished, something else":       {api.Wished, old, slices.Concat(call, all(wish, 0, 2, 6, 1, 2, 3)), nil, -1},
		"wished, no call":              {api.Wished, old, all(wish, 0, 2, 5, 1, 2, 3), nil, -1},
		"wished, three for it, seen":   {api.Wished, seen, slices.Concat(call, all(wish, 0, 2, 5, 1, 2, 3)), nil, -1},
		"wished, only promised":        {api.Wished, old, slices.Concat(call, all(promise, 0, 2, 5, 1, 2)), nil, -1},
		"wished, in another round":     {api.Wished, old, slices.Concat(call, all(wish, 0, 1, 5, 1, 2, 3)), nil, -1},
		"promised, three for it":       {api.Promised, old, slices.Concat(call, all(wish, 0, 2, 5, 1, 2, 3)), promised, -1},
		"promised, three for it, seen": {api.Promised, seen, slices.Concat(call, all(wish, 0, 2, 5, 1, 2, 3)), nil, -1},
		"promised, two for it":         {api.Promised, old, slices.Concat(call, all(wish, 0, 2, 5, 1, 2)), nil, -1},
	}
	for name, c := range cases {
		before := func(s *api.Node) { c.before(s); s.Round, s.Step = 2, c.step }
		after := func(s *api.Node) { c.after(s); s.Round = 2 }
		if c.after == nil {
			after = before
		}
		var want []api.Word
		if c.promise >= 0 {
			want = []api.Word{promise(0, 0, 2, c.promise)}
		}
		other := []api.Word{wish(0, 3, 0, 0)}
		got, said := mustHear(t, knowing(before, c.heard), 0, other...)
		if !slices.Equal(said, want) || !same(got, knowing(after, c.heard, other, want)) {
			t.Errorf("%s: said %+v, node is %+v", name, said, got)
		}
	}
}

// P3.7: who waits promises nothing, and sees nothing.
func TestWaitsAndDoesNotAnswerWishes(t *testing.T) {
	for _, value := range []int{0, 5} {
		after, said := mustHear(t, New(), 3, all(wish, 0, 0, value, 0, 1, 2)...)
		if len(said) != 0 || after.Step != api.Waits || after.Seen[0] || after.ValidIn != -1 {
			t.Errorf("%d: said %+v, node is %+v", value, said, after)
		}
	}
	s := knowing(func(s *api.Node) { s.Round = 1 }, all(wish, 0, 1, 5, 0, 1))
	after, said := mustHear(t, s, 3, propose(1, 0, 1, 5, 0), wish(2, 0, 1, 5))
	wantSaid(t, said)
	if after.Step != api.Waits || after.Seen[1] || after.ValidIn != -1 {
		t.Errorf("node is %+v", after)
	}
	after, said = mustHear(t, New(), 3, append(all(wish, 0, 0, 5, 0, 1), propose(0, 0, 0, 5, -1))...)
	wantSaid(t, said, wish(3, 0, 0, 5), promise(3, 0, 0, 5))
	if after.Step != api.Promised || !after.Seen[0] || after.Bound != 5 || after.Valid != 5 || after.ValidIn != 0 {
		t.Errorf("node is %+v", after)
	}
}

// P3.7: who has promised 0 may yet propose what it saw enough wish for.
func TestProposesWhatItSaw(t *testing.T) {
	s := knowing(func(s *api.Node) { s.Step, s.Queue = api.Promised, []int{9} },
		all(wish, 0, 0, 6, 0, 2), all(promise, 0, 0, 0, 0, 1, 2), []api.Word{propose(0, 0, 0, 6, -1)})
	s, said := mustHear(t, s, 1, wish(3, 0, 0, 6))
	wantSaid(t, said)
	_, said = mustTime(t, s, 1)
	wantSaid(t, said, propose(1, 0, 1, 6, 0), wish(1, 0, 1, 6))
}
