package node

import (
	"slices"

	"yokefellow/api"
	"yokefellow/bounds"
	"yokefellow/votes"
	"yokefellow/wire"
)

// turn is a node at work in one call: who it is, and what it has said in that call.
type turn struct {
	api.Node
	who  int
	said []api.Word
}

// begin also makes the turn of what it refuses, so that there is one way to answer the node as it was.
func begin(s api.Node, who int) (*turn, api.Errno) {
	t := &turn{Node: s, who: who}
	// Values are put to the queue and taken out of it in place; the caller's list must not feel that.
	t.Queue = slices.Clone(s.Queue)
	switch {
	case !Good(s):
		return t, api.ErrForm
	case !bounds.Node(who):
		return t, api.ErrRange
	}
	return t, api.OK
}

func (t *turn) answer() (api.Node, []api.Word, api.Errno) { return t.Node, t.said, api.OK }

// refuse is asked for ahead of all changes only: the node is as it was.
func (t *turn) refuse(e api.Errno) (api.Node, []api.Word, api.Errno) { return t.Node, nil, e }

// sheet is what was heard of the node's own height, which must be below Heights.
func (t *turn) sheet() *api.Sheet { return &t.Heard[t.Height] }

// hear is of any height: what is heard ahead of time, or late, is kept, too.
func (t *turn) hear(w api.Word) {
	t.Heard[w.Height] = votes.Hear(t.Heard[w.Height], w)
}

func (t *turn) say(kind, value, valid int) {
	w := api.Word{Kind: kind, From: t.who, Height: t.Height, Round: t.Round, Value: value, Valid: valid}
	t.hear(w)
	t.said = append(t.said, w)
}

func (t *turn) wishFor(value int) {
	t.Step = api.Wished
	t.say(api.Wish, value, 0)
}

func (t *turn) promise(value int) {
	t.Step = api.Promised
	t.say(api.Promise, value, 0)
}

// enter comes to a round of the node's own height, which must be below Heights.
func (t *turn) enter(round int) {
	t.Round, t.Step = round, api.Waits
	if wire.Leader(t.Height, round) != t.who || t.sheet().Calls[round].Is {
		return
	}
	switch {
	case t.ValidIn != noRound:
		t.say(api.Propose, t.Valid, t.ValidIn)
	case len(t.Queue) > 0:
		t.say(api.Propose, t.Queue[0], noRound)
	}
}

// follow ends: heights, rounds within a height and steps within a round only grow, and a round is Seen once.
func (t *turn) follow() {
	for t.Height < api.Heights && (t.settle() || t.catchUp() || t.answerCall() || t.answerWishes()) {
	}
}

// settle looks at all rounds: a quorum may be heard of long after its round, or ahead of it.
func (t *turn) settle() bool {
	sheet := t.sheet()
	for round, call := range sheet.Calls {
		if carried(call, sheet.Promises[round]) {
			t.rise(call.Value)
			return true
		}
	}
	return false
}

// rise leaves the height behind, with the value that it settled.
func (t *turn) rise(settled int) {
	t.Settled[t.Height] = settled
	t.Queue = slices.DeleteFunc(t.Queue, func(value int) bool { return value == settled })
	t.Height++
	t.Bound, t.BoundIn = 0, noRound
	t.Valid, t.ValidIn = 0, noRound
	t.Seen = [api.Rounds]bool{}
	if t.Height < api.Heights {
		t.enter(0)
		return
	}
	// Behind the last height there is no sheet, and nothing to propose.
	t.Round, t.Step = 0, api.Waits
}

// catchUp goes where so many are that one of them is true.
func (t *turn) catchUp() bool {
	for round := api.Rounds - 1; round > t.Round; round-- {
		if votes.Heard(*t.sheet(), round) >= api.Some {
			t.enter(round)
			return true
		}
	}
	return false
}

// answerCall wishes for what was proposed, or, where that would break what the node is bound to, for nothing.
func (t *turn) answerCall() bool {
	sheet := t.sheet()
	call := sheet.Calls[t.Round]
	if t.Step != api.Waits || !call.Is {
		return false
	}
	if call.Valid != noRound && !quorum(sheet.Wishes[call.Valid], call.Value) {
		return false
	}
	if t.BoundIn <= call.Valid || t.Bound == call.Value {
		t.wishFor(call.Value)
	} else {
		t.wishFor(0)
	}
	return true
}

// answerWishes promises what a quorum wishes for; who has promised already only keeps it in mind, to propose it later.
func (t *turn) answerWishes() bool {
	if t.Step == api.Waits {
		return false
	}
	call, wishes := t.sheet().Calls[t.Round], t.sheet().Wishes[t.Round]
	if t.Step == api.Wished && quorum(wishes, 0) {
		t.promise(0)
		return true
	}
	if t.Seen[t.Round] || !carried(call, wishes) {
		return false
	}
	t.Seen[t.Round] = true
	t.Valid, t.ValidIn = call.Value, t.Round
	if t.Step == api.Wished {
		t.Bound, t.BoundIn = call.Value, t.Round
		t.promise(call.Value)
	}
	return true
}

// giveUp takes one step, never two: each has a wait of its own.
func (t *turn) giveUp() {
	sheet := t.sheet()
	switch t.Step {
	case api.Waits:
		t.wishFor(0)
	case api.Wished:
		if votes.All(sheet.Wishes[t.Round]) >= api.Quorum {
			t.promise(0)
		}
	case api.Promised:
		if votes.All(sheet.Promises[t.Round]) >= api.Quorum && bounds.Round(t.Round+1) {
			t.enter(t.Round + 1)
		}
	}
}

func quorum(v api.Votes, value int) bool { return votes.Count(v, value) >= api.Quorum }

// carried asks whether there is a call at all: without one its value would be 0, for which many may have voted.
func carried(call api.Call, v api.Votes) bool { return call.Is && quorum(v, call.Value) }
