package votes

import (
	"math"
	"testing"

	"yokefellow/api"
)

// sheetWith is an empty sheet, changed.
func sheetWith(change func(*api.Sheet)) api.Sheet {
	var s api.Sheet
	change(&s)
	return s
}

// P2.1
func TestCount(t *testing.T) {
	cases := []struct {
		votes       api.Votes
		value, want int
	}{
		{api.Votes{}, 0, 0},
		{api.Votes{}, -1, 0},
		{api.Votes{1, 1, 1, 1}, 0, 4},
		{api.Votes{1, 1, 1, 1}, 1, 0},
		{api.Votes{8, 0, 8, 7}, 7, 2},
		{api.Votes{8, 0, 8, 7}, 6, 1},
		{api.Votes{8, 0, 8, 7}, 8, 0},
		{api.Votes{10, 10, 10, 10}, 9, 4},
		{api.Votes{11, 1, 11, 0}, 10, 2},
		{api.Votes{-1, -2, -3, 0}, -1, 0},
		{api.Votes{-1, -2, -3, 0}, -2, 0},
		{api.Votes{-1, -1, -1, -1}, -2, 0},
		{api.Votes{math.MaxInt, 1, math.MaxInt, math.MaxInt}, math.MaxInt - 1, 3},
		{api.Votes{math.MinInt, math.MinInt, math.MaxInt, 1}, math.MaxInt, 0},
		{api.Votes{math.MinInt, math.MinInt, math.MaxInt, 1}, math.MinInt, 0},
	}
	for _, c := range cases {
		if got := Count(c.votes, c.value); got != c.want {
			t.Errorf("Count(%v, %d) = %d, want %d", c.votes, c.value, got, c.want)
		}
	}
}

// P2.1
func TestAll(t *testing.T) {
	cases := []struct {
		votes api.Votes
		want  int
	}{
		{api.Votes{}, 0},
		{api.Votes{1, 0, 0, 0}, 1},
		{api.Votes{0, 0, 0, 1}, 1},
		{api.Votes{1, 0, -3, 8}, 2},
		{api.Votes{10, 1, 5, 5}, 4},
		{api.Votes{-1, -2, math.MinInt, 0}, 0},
		{api.Votes{11, math.MaxInt, 0, 2}, 3},
	}
	for _, c := range cases {
		if got := All(c.votes); got != c.want {
			t.Errorf("All(%v) = %d, want %d", c.votes, got, c.want)
		}
	}
}

func checkMost(t *testing.T, v api.Votes, want int, is bool) {
	t.Helper()
	if got, ok := Most(v); got != want || ok != is {
		t.Errorf("Most(%v) = %d, %v, want %d, %v", v, got, ok, want, is)
	}
}

// P2.1: each value from 0 to Values, said by three or by four, whoever is missing.
func TestMostOfValues(t *testing.T) {
	for value := 0; value <= 9; value++ {
		n := value + 1
		checkMost(t, api.Votes{n, n, n, n}, value, true)
		for i := range api.Nodes {
			for _, other := range []int{math.MinInt, -1, 0, value%9 + 2, 11, math.MaxInt} {
				three := api.Votes{n, n, n, n}
				three[i] = other
				if other == n {
					t.Fatal("the other one says the same")
				}
				checkMost(t, three, value, true)
			}
		}
	}
}

// P2.1: too few, and what is no value.
func TestMostOfNothing(t *testing.T) {
	for _, v := range []api.Votes{
		{},
		{3, 1, 1, 3},
		{3, 3, 0, 0},
		{3, 3, 4, 5},
		{1, 2, 3, 4},
		{0, 0, 0, 1},
		{-1, -1, -1, -1},
		{11, 11, 11, 11},
		{11, 11, 11, 1},
		{math.MaxInt, math.MaxInt, math.MaxInt, math.MaxInt},
		{math.MinInt, math.MinInt, math.MinInt, math.MinInt},
	} {
		checkMost(t, v, 0, false)
	}
}

func checkHear(t *testing.T, s api.Sheet, w api.Word, want api.Sheet) {
	t.Helper()
	before := s
	if got := Hear(s, w); got != want {
		t.Errorf("Hear(%+v, %+v) = %+v, want %+v", s, w, got, want)
	}
	if s != before {
		t.Error("Hear changed the sheet that was handed in")
	}
}

// P2.2: at each height and in each round only the leader is heard, with each value and each Valid.
func TestHearProposal(t *testing.T) {
	leaders := [4][6]int{{0, 1, 2, 3, 0, 1}, {1, 2, 3, 0, 1, 2}, {2, 3, 0, 1, 2, 3}, {3, 0, 1, 2, 3, 0}}
	for height, row := range leaders {
		for round, leader := range row {
			for from := range 4 {
				for value := 1; value <= 9; value++ {
					for valid := -1; valid < round; valid++ {
						want := api.Sheet{}
						if from == leader {
							want.Calls[round] = api.Call{Is: true, Value: value, Valid: valid}
						}
						checkHear(t, api.Sheet{}, api.Word{Kind: 1, From: from, Height: height, Round: round, Value: value, Valid: valid}, want)
					}
				}
			}
		}
	}
}

// P2.2: the first proposal of a round stands, and other rounds go on.
func TestHearProposalTwice(t *testing.T) {
	s := sheetWith(func(s *api.Sheet) { s.Calls[1] = api.Call{Is: true, Value: 5, Valid: 0} })
	checkHear(t, s, api.Word{Kind: 1, From: 1, Round: 1, Value: 6, Valid: 0}, s)
	checkHear(t, s, api.Word{Kind: 1, From: 1, Round: 1, Value: 5, Valid: -1}, s)
	want := s
	want.Calls[5] = api.Call{Is: true, Value: 6, Valid: 1}
	checkHear(t, s, api.Word{Kind: 1, From: 1, Round: 5, Value: 6, Valid: 1}, want)
	empty := sheetWith(func(s *api.Sheet) { s.Calls[1] = api.Call{Is: true} })
	checkHear(t, empty, api.Word{Kind: 1, From: 1, Round: 1, Value: 6, Valid: 0}, empty)
}

// P2.2: a call that is none does not stand in the way, whatever else it holds.
func TestHearProposalOverNone(t *testing.T) {
	s := sheetWith(func(s *api.Sheet) { s.Calls[1] = api.Call{Value: 3, Valid: 7} })
	want := sheetWith(func(s *api.Sheet) { s.Calls[1] = api.Call{Is: true, Value: 6, Valid: 0} })
	checkHear(t, s, api.Word{Kind: 1, From: 1, Round: 1, Value: 6, Valid: 0}, want)
}

// P2.2: each wish and each promise, where nothing else changes.
func TestHearVote(t *testing.T) {
	for round := range 6 {
		for from := range 4 {
			for value := range 10 {
				w := api.Word{Kind: api.Wish, From: from, Height: 3, Round: round, Value: value}
				checkHear(t, api.Sheet{}, w, sheetWith(func(s *api.Sheet) { s.Wishes[round][from] = value + 1 }))
				w.Kind = api.Promise
				checkHear(t, api.Sheet{}, w, sheetWith(func(s *api.Sheet) { s.Promises[round][from] = value + 1 }))
			}
		}
	}
}

// P2.2: only who has 0 there may still say something.
func TestHearVoteTwice(t *testing.T) {
	for _, vote := range []int{math.MinInt, -1, 1, 6, 10, 11, math.MaxInt} {
		for value := range 10 {
			s := sheetWith(func(s *api.Sheet) { s.Wishes[2][3] = vote })
			w := api.Word{Kind: api.Wish, From: 3, Round: 2, Value: value}
			checkHear(t, s, w, s)
			promised := s
			promised.Promises[2][3] = value + 1
			w.Kind = api.Promise
			checkHear(t, s, w, promised)

			s = sheetWith(func(s *api.Sheet) { s.Promises[2][3] = vote })
			checkHear(t, s, w, s)
			wished := s
			wished.Wishes[2][3] = value + 1
			w.Kind = api.Wish
			checkHear(t, s, w, wished)
		}
	}
}

// fullSheet has something in every place, so that a change anywhere is seen.
func fullSheet() api.Sheet {
	var s api.Sheet
	for round := range s.Calls {
		s.Calls[round] = api.Call{Is: true, Value: round + 1, Valid: round - 1}
		s.Wishes[round] = api.Votes{1, 2, 3, 10}
		s.Promises[round] = api.Votes{10, 9, 8, 1}
	}
	return s
}

// P2.2: behind a word that is not good the sheet is as it was.
func TestHearNoGoodWord(t *testing.T) {
	words := []api.Word{{}, {Kind: -1}, {Kind: 4}, {Kind: 9, Value: 1}, {Kind: math.MaxInt}, {Kind: math.MinInt},
		{Kind: 1, Value: 0, Valid: -1}, {Kind: 1, Value: 10, Valid: -1}, {Kind: 1, Value: 1}, {Kind: 1, Value: 1, Valid: -2},
		{Kind: 1, From: 1, Round: 1, Value: 1, Valid: 1}, {Kind: 1, From: 2, Round: 6, Value: 1}, {Kind: 1, Height: 4, Value: 1, Valid: -1},
		{Kind: 1, Height: -4, Value: 1, Valid: -1}, {Kind: 1, Round: -4, Value: 1, Valid: -5}}
	for _, kind := range []int{api.Wish, api.Promise} {
		for _, n := range []int{math.MinInt, -1, 10, math.MaxInt} {
			words = append(words, api.Word{Kind: kind, From: n}, api.Word{Kind: kind, Height: n}, api.Word{Kind: kind, Round: n}, api.Word{Kind: kind, Value: n}, api.Word{Kind: kind, Valid: n})
		}
		words = append(words, api.Word{Kind: kind, From: 4}, api.Word{Kind: kind, Height: 4}, api.Word{Kind: kind, Round: 6}, api.Word{Kind: kind, Valid: 1})
	}
	for _, w := range words {
		checkHear(t, api.Sheet{}, w, api.Sheet{})
		checkHear(t, fullSheet(), w, fullSheet())
	}
}

// P2.3
func TestHeard(t *testing.T) {
	var s api.Sheet
	s.Calls[0] = api.Call{Is: true, Value: 1, Valid: -1}
	s.Wishes[1] = api.Votes{1, 0, 0, 0}
	s.Promises[2] = api.Votes{0, 0, 0, 1}
	s.Wishes[3], s.Promises[3] = api.Votes{5, 0, 3, 0}, api.Votes{5, 1, 0, 0}
	s.Wishes[4], s.Promises[4] = api.Votes{1, 2, -1, 0}, api.Votes{0, -7, 10, 4}
	s.Wishes[5], s.Promises[5] = api.Votes{-1, math.MinInt, 0, math.MaxInt}, api.Votes{0, 0, -2, 11}
	for round, want := range []int{0, 1, 1, 3, 4, 1} {
		if got := Heard(s, round); got != want {
			t.Errorf("Heard in round %d = %d, want %d", round, got, want)
		}
	}
	for _, round := range []int{math.MinInt, -1, 6, 7, math.MaxInt} {
		if got := Heard(fullSheet(), round); got != 0 {
			t.Errorf("Heard in round %d = %d, want 0", round, got)
		}
	}
}

func checkGood(t *testing.T, s api.Sheet, want bool) {
	t.Helper()
	if got := Good(s); got != want {
		t.Errorf("Good(%+v) = %v, want %v", s, got, want)
	}
}

// P2.4
func TestGoodCalls(t *testing.T) {
	checkGood(t, api.Sheet{}, true)
	checkGood(t, fullSheet(), true)
	for _, base := range []api.Sheet{{}, fullSheet()} {
		for round := range base.Calls {
			check := func(c api.Call, want bool) {
				t.Helper()
				s := base
				s.Calls[round] = c
				checkGood(t, s, want)
			}
			check(api.Call{}, true)
			for _, n := range []int{math.MinInt, -1, 1, 9, math.MaxInt} {
				check(api.Call{Value: n}, false)
				check(api.Call{Valid: n}, false)
				check(api.Call{Value: 1, Valid: n}, false)
			}
			for value := 1; value <= 9; value++ {
				check(api.Call{Is: true, Value: value, Valid: -1}, true)
				check(api.Call{Is: true, Value: value, Valid: round - 1}, true)
			}
			for _, value := range []int{math.MinInt, -1, 0, 10, math.MaxInt} {
				check(api.Call{Is: true, Value: value, Valid: -1}, false)
			}
			for _, valid := range []int{math.MinInt, -2, round, round + 1, math.MaxInt} {
				check(api.Call{Is: true, Value: 1, Valid: valid}, false)
			}
		}
	}
}

// P2.4
func TestGoodVotes(t *testing.T) {
	for _, base := range []api.Sheet{{}, fullSheet()} {
		for round := range base.Calls {
			for from := range api.Nodes {
				check := func(vote int, want bool) {
					t.Helper()
					s := base
					s.Wishes[round][from] = vote
					checkGood(t, s, want)
					s = base
					s.Promises[round][from] = vote
					checkGood(t, s, want)
				}
				for vote := 0; vote <= 10; vote++ {
					check(vote, true)
				}
				for _, vote := range []int{math.MinInt, -1, 11, math.MaxInt} {
					check(vote, false)
				}
			}
		}
	}
}

// P2.2, P2.4: of all words, the good ones and others, a good sheet stays good, and what was heard stays.
func TestHearKeepsGood(t *testing.T) {
	var s api.Sheet
	for kind := -1; kind <= 4; kind++ {
		for from := -1; from <= 4; from++ {
			for round := -1; round <= 6; round++ {
				for value := 10; value >= -1; value-- {
					for valid := -2; valid <= 6; valid++ {
						w := api.Word{Kind: kind, From: from, Round: round, Value: value, Valid: valid}
						s = Hear(s, w)
						if !Good(s) {
							t.Fatalf("not good behind %+v: %+v", w, s)
						}
					}
				}
			}
		}
	}
	for round := range 6 {
		if s.Calls[round] != (api.Call{Is: true, Value: 9, Valid: -1}) || s.Wishes[round] != (api.Votes{10, 10, 10, 10}) || s.Promises[round] != s.Wishes[round] {
			t.Errorf("round %d: %+v %v %v", round, s.Calls[round], s.Wishes[round], s.Promises[round])
		}
	}
}
