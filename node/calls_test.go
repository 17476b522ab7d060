package node

import (
	"math"
	"reflect"
	"slices"
	"testing"

	"yokefellow/api"
)

// calls are the three that hand a node on; each of them is asked for something that is good of itself.
func calls() map[string]func(s api.Node, who int) (api.Node, []api.Word, api.Errno) {
	return map[string]func(s api.Node, who int) (api.Node, []api.Word, api.Errno){
		"Hear":   func(s api.Node, who int) (api.Node, []api.Word, api.Errno) { return Hear(s, who, wish(0, 0, 0, 1)) },
		"Submit": func(s api.Node, who int) (api.Node, []api.Word, api.Errno) { return Submit(s, who, 1) },
		"Time":   Time,
	}
}

// The errors that all say, ahead of P3.8.
func TestRefusesNodes(t *testing.T) {
	for name, call := range calls() {
		cases := []struct {
			s    api.Node
			who  int
			want api.Errno
		}{
			{api.Node{}, 0, api.ErrForm},
			{api.Node{}, 4, api.ErrForm},
			{knowing(func(s *api.Node) { s.Height = math.MaxInt }), 0, api.ErrForm},
			{knowing(func(s *api.Node) { s.Height = math.MinInt }), -1, api.ErrForm},
			{knowing(func(s *api.Node) { s.Round = api.Rounds }), 0, api.ErrForm},
			{knowing(func(s *api.Node) { s.Step, s.Queue = 3, []int{1, 2} }), 0, api.ErrForm},
			{knowing(func(s *api.Node) { s.Queue = []int{1, 2, 3, 4, 5, 6, 7} }), 0, api.ErrForm},
			{knowing(func(s *api.Node) { s.Heard[2].Calls[1] = api.Call{Is: true, Value: 1, Valid: 1} }), 0, api.ErrForm},
			{New(), -1, api.ErrRange},
			{New(), api.Nodes, api.ErrRange},
			{New(), math.MinInt, api.ErrRange},
			{New(), math.MaxInt, api.ErrRange},
			{knowing(func(s *api.Node) { s.Height, s.Settled = 4, [api.Heights]int{1, 2, 3, 4} }), 4, api.ErrRange},
			{New(), 0, api.OK},
			{New(), 3, api.OK},
		}
		for i, c := range cases {
			after, said, e := call(c.s, c.who)
			if e != c.want {
				t.Errorf("%s, case %d: says %d, want %d", name, i, e, c.want)
			}
			if e != api.OK && (!reflect.DeepEqual(after, c.s) || len(said) != 0) {
				t.Errorf("%s, case %d: the node is not as it was, or said %+v", name, i, said)
			}
		}
	}
}

// P3.8
func TestHearRefusesWords(t *testing.T) {
	full := knowing(func(s *api.Node) { s.Queue = []int{1, 2, 3, 4, 5, 6} }, []api.Word{propose(0, 0, 0, 7, -1)})
	cases := []struct {
		s    api.Node
		who  int
		w    api.Word
		want api.Errno
	}{
		{full, 0, api.Word{}, api.ErrKind},
		{full, 0, api.Word{Kind: 4, From: 9}, api.ErrKind},
		{full, 0, wish(4, 0, 0, 1), api.ErrRange},
		{full, 0, wish(0, api.Heights, 0, 1), api.ErrRange},
		{full, 0, wish(0, -1, 0, 1), api.ErrRange},
		{full, 0, wish(0, 0, api.Rounds, 1), api.ErrRange},
		{full, 0, promise(0, 0, 0, 10), api.ErrRange},
		{full, 0, propose(0, 0, 0, 0, -1), api.ErrRange},
		{full, 0, propose(1, 0, 1, 5, 1), api.ErrRange},
		{full, 0, api.Word{Kind: api.Wish, Valid: -1}, api.ErrForm},
		{full, 4, api.Word{}, api.ErrRange},
		{api.Node{}, 0, api.Word{}, api.ErrForm},
	}
	for i, c := range cases {
		after, said, e := Hear(c.s, c.who, c.w)
		if e != c.want || !reflect.DeepEqual(after, c.s) || len(said) != 0 {
			t.Errorf("case %d: says %d, want %d; said %+v", i, e, c.want, said)
		}
	}
}

// P3.8: words of all heights come to their sheets, whichever the node's own is.
func TestHearOfAllHeights(t *testing.T) {
	for height := range api.Heights + 1 {
		s := knowing(func(s *api.Node) {
			s.Height = height
			copy(s.Settled[:height], []int{9, 8, 7, 6})
		})
		for of := range api.Heights {
			w := promise(2, of, 5, 3)
			after, said := mustHear(t, s, 1, w)
			wantSaid(t, said)
			want := s
			want.Heard[of].Promises[5][2] = 4
			wantNode(t, after, want)
		}
	}
}

// P3.8: who says a second thing is not heard; who is no leader proposes nothing; what is not news changes nothing.
func TestHearTwice(t *testing.T) {
	s, said := mustHear(t, New(), 2, wish(1, 0, 0, 5), propose(0, 0, 0, 5, -1))
	wantSaid(t, said, wish(2, 0, 0, 5))
	for _, w := range []api.Word{wish(1, 0, 0, 4), wish(1, 0, 0, 5), propose(0, 0, 0, 4, -1), propose(1, 0, 0, 4, -1)} {
		after, said := mustHear(t, s, 2, w)
		wantSaid(t, said)
		wantNode(t, after, s)
	}
}

// P3.9
func TestSubmit(t *testing.T) {
	after, said := mustSubmit(t, New(), 0, 7)
	wantSaid(t, said, propose(0, 0, 0, 7, -1), wish(0, 0, 0, 7))
	wantNode(t, after, knowing(func(s *api.Node) { s.Step, s.Queue = api.Wished, []int{7} }, said))

	after, said = mustSubmit(t, after, 0, 7)
	wantSaid(t, said)
	if !slices.Equal(after.Queue, []int{7, 7}) || after.Step != api.Wished {
		t.Errorf("node is %+v", after)
	}

	after, said = mustSubmit(t, New(), 1, 9)
	wantSaid(t, said)
	wantNode(t, after, knowing(func(s *api.Node) { s.Queue = []int{9} }))
}

// P3.9: a leader proposes the first of its queue, not the value that is submitted, and what is valid ahead of both.
func TestSubmitProposes(t *testing.T) {
	s := knowing(func(s *api.Node) { s.Round, s.Queue = 4, []int{3} })
	after, said := mustSubmit(t, s, 0, 7)
	wantSaid(t, said, propose(0, 0, 4, 3, -1), wish(0, 0, 4, 3))
	if !slices.Equal(after.Queue, []int{3, 7}) {
		t.Errorf("queue is %v", after.Queue)
	}

	s = knowing(func(s *api.Node) { s.Round, s.Valid, s.ValidIn = 4, 2, 1 }, all(wish, 0, 1, 2, 1, 2, 3))
	_, said = mustSubmit(t, s, 0, 7)
	wantSaid(t, said, propose(0, 0, 4, 2, 1), wish(0, 0, 4, 2))

	s = knowing(func(s *api.Node) { s.Round = 4 }, []api.Word{propose(0, 0, 4, 6, 2)})
	_, said = mustSubmit(t, s, 0, 7)
	wantSaid(t, said)
}

// P3.2 and P3.3: no round is valid in itself, so that nobody hears such a call; a good node that no words led to says it all the same.
func TestSubmitProposesWhatIsNotHeard(t *testing.T) {
	s := knowing(func(s *api.Node) { s.Round, s.Valid, s.ValidIn = 4, 2, 4 })
	after, said := mustSubmit(t, s, 0, 7)
	wantSaid(t, said, propose(0, 0, 4, 2, 4))
	want := s
	want.Queue = []int{7}
	wantNode(t, after, want)
}

// P3.9: who does not wait, or is behind all heights, only puts the value to its queue.
func TestSubmitOnlyStands(t *testing.T) {
	cases := map[string]func(*api.Node){
		"wished":           func(s *api.Node) { s.Step = api.Wished },
		"promised":         func(s *api.Node) { s.Step = api.Promised },
		"behind all":       func(s *api.Node) { s.Height, s.Settled = 4, [api.Heights]int{1, 2, 3, 4} },
		"behind, in a row": func(s *api.Node) { s.Height, s.Settled, s.Queue = 4, [api.Heights]int{7, 7, 7, 7}, []int{7, 7} },
	}
	// All of these would follow, if anything did.
	heard := slices.Concat([]api.Word{propose(0, 0, 0, 5, -1)}, all(wish, 0, 0, 5, 1, 2, 3), all(promise, 0, 0, 5, 1, 2, 3), all(wish, 0, 4, 0, 1, 2))
	for name, change := range cases {
		s := knowing(change, heard)
		after, said := mustSubmit(t, s, 0, 7)
		want := knowing(change, heard)
		want.Queue = append(want.Queue, 7)
		if len(said) != 0 || !same(after, want) {
			t.Errorf("%s: said %+v, node is %+v", name, said, after)
		}
	}
}

// P3.9
func TestSubmitRefuses(t *testing.T) {
	full := func(s *api.Node) { s.Queue = []int{1, 2, 3, 4, 5, 6} }
	cases := []struct {
		s          api.Node
		who, value int
		want       api.Errno
	}{
		{New(), 0, 0, api.ErrRange},
		{New(), 0, -1, api.ErrRange},
		{New(), 0, api.Values + 1, api.ErrRange},
		{New(), 0, math.MaxInt, api.ErrRange},
		{New(), 0, math.MinInt, api.ErrRange},
		{New(), 0, api.Values, api.OK},
		{knowing(full), 0, 1, api.ErrFull},
		{knowing(full), 0, 0, api.ErrRange},
		{knowing(full), 4, 1, api.ErrRange},
		{knowing(func(s *api.Node) { s.Queue = []int{1, 2, 3, 4, 5} }), 0, 1, api.OK},
		{knowing(func(s *api.Node) { full(s); s.Height, s.Settled = 4, [api.Heights]int{1, 2, 3, 4} }), 0, 1, api.ErrFull},
		{api.Node{}, 0, 0, api.ErrForm},
	}
	for i, c := range cases {
		after, said, e := Submit(c.s, c.who, c.value)
		if e != c.want {
			t.Errorf("case %d: says %d, want %d", i, e, c.want)
		}
		if e != api.OK && (!reflect.DeepEqual(after, c.s) || len(said) != 0) {
			t.Errorf("case %d: the node is not as it was, or said %+v", i, said)
		}
	}
}

// P3.10: what node 1 does when time runs out; rounds 1 and 5 are led by it.
func TestTime(t *testing.T) {
	mixed := func(say func(from, height, round, value int) api.Word, round int, from ...int) []api.Word {
		var l []api.Word
		for _, i := range from {
			l = append(l, say(i, 0, round, i))
		}
		return l
	}
	cases := map[string]struct {
		step, round int
		heard       []api.Word
		wantStep    int
		wantRound   int
		said        []api.Word
	}{
		"waits":                          {api.Waits, 2, nil, api.Wished, 2, []api.Word{wish(1, 0, 2, 0)}},
		"waits, one step only":           {api.Waits, 2, mixed(wish, 2, 0, 2, 3), api.Wished, 2, []api.Word{wish(1, 0, 2, 0)}},
		"waits, 0 follows":               {api.Waits, 2, all(wish, 0, 2, 0, 0, 2), api.Promised, 2, []api.Word{wish(1, 0, 2, 0), promise(1, 0, 2, 0)}},
		"waits, call not valid yet":      {api.Waits, 2, []api.Word{propose(2, 0, 2, 5, 1)}, api.Wished, 2, []api.Word{wish(1, 0, 2, 0)}},
		"wished, three of several":       {api.Wished, 2, mixed(wish, 2, 1, 2, 3), api.Promised, 2, []api.Word{promise(1, 0, 2, 0)}},
		"wished, two":                    {api.Wished, 2, mixed(wish, 2, 1, 3), api.Wished, 2, nil},
		"wished, three in another round": {api.Wished, 2, mixed(wish, 1, 1, 2, 3), api.Wished, 2, nil},
		"wished, three have promised":    {api.Wished, 2, mixed(promise, 2, 1, 2, 3), api.Wished, 2, nil},
		"wished, one step only":          {api.Wished, 2, slices.Concat(mixed(wish, 2, 1, 2, 3), mixed(promise, 2, 0, 2, 3)), api.Promised, 2, []api.Word{promise(1, 0, 2, 0)}},
		"wished, three for the call":     {api.Wished, 2, append(all(wish, 0, 2, 5, 0, 2, 3), propose(2, 0, 2, 5, -1)), api.Promised, 2, []api.Word{promise(1, 0, 2, 0)}},
		"promised, three of several":     {api.Promised, 2, mixed(promise, 2, 0, 1, 3), api.Waits, 3, nil},
		"promised, two":                  {api.Promised, 2, mixed(promise, 2, 1, 3), api.Promised, 2, nil},
		"promised, three have wished":    {api.Promised, 2, mixed(wish, 2, 1, 2, 3), api.Promised, 2, nil},
		"promised, last round but one":   {api.Promised, 4, mixed(promise, 4, 0, 1, 3), api.Wished, 5, []api.Word{propose(1, 0, 5, 8, -1), wish(1, 0, 5, 8)}},
		"promised, last round":           {api.Promised, 5, mixed(promise, 5, 0, 1, 2, 3), api.Promised, 5, nil},
		"promised, the call is there":    {api.Promised, 2, append(mixed(promise, 2, 0, 1, 3), propose(3, 0, 3, 5, -1)), api.Wished, 3, []api.Word{wish(1, 0, 3, 5)}},
		"promised, others are further":   {api.Promised, 2, append(mixed(promise, 2, 0, 1, 3), mixed(wish, 4, 0, 3)...), api.Waits, 4, nil},
	}
	for name, c := range cases {
		s := knowing(func(s *api.Node) { s.Step, s.Round, s.Queue = c.step, c.round, []int{8} }, c.heard)
		after, said := mustTime(t, s, 1)
		if after.Step != c.wantStep || after.Round != c.wantRound || !slices.Equal(said, c.said) {
			t.Errorf("%s: step %d, round %d, said %+v; want %d, %d, %+v", name, after.Step, after.Round, said, c.wantStep, c.wantRound, c.said)
		}
	}
}

// P3.10: behind all heights nothing comes of time.
func TestTimeBehindAllHeights(t *testing.T) {
	for _, step := range []int{api.Waits, api.Wished, api.Promised} {
		s := knowing(func(s *api.Node) {
			s.Height, s.Settled, s.Step, s.Queue = 4, [api.Heights]int{1, 2, 3, 4}, step, []int{5}
		})
		after, said := mustTime(t, s, 0)
		wantSaid(t, said)
		wantNode(t, after, s)
	}
}

// P3.10: time binds nobody, and frees nobody.
func TestTimeKeepsWhatIsBound(t *testing.T) {
	s := knowing(func(s *api.Node) {
		s.Round, s.Step, s.Bound, s.BoundIn, s.Valid, s.ValidIn, s.Seen[0] = 1, api.Waits, 7, 0, 7, 0, true
	})
	after, said := mustTime(t, s, 0)
	wantSaid(t, said, wish(0, 0, 1, 0))
	want := s
	want.Step, want.Heard[0].Wishes[1][0] = api.Wished, 1
	wantNode(t, after, want)
}

// 'What holds everywhere': lists that are handed in are not changed, their spare room neither.
func TestKeepsTheQueueThatIsHandedIn(t *testing.T) {
	room := []int{7, 3, 7, 4, 8, 8}
	s := knowing(func(s *api.Node) { s.Queue = room[:4] }, []api.Word{propose(0, 0, 0, 7, -1)}, all(promise, 0, 0, 7, 0, 1, 2))
	settled, _ := mustHear(t, s, 2, wish(0, 3, 0, 0))
	longer, _ := mustSubmit(t, s, 2, 9)
	refused, _, _ := Submit(s, 2, 0)
	timed, _ := mustTime(t, s, 2)
	for _, after := range []api.Node{settled, longer, refused, timed} {
		for i := range after.Queue {
			after.Queue[i] = 1
		}
		_ = append(after.Queue, 2, 2)
	}
	if !slices.Equal(room, []int{7, 3, 7, 4, 8, 8}) {
		t.Errorf("the list that was handed in is %v", room)
	}
}
