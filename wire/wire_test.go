package wire

import (
	"math"
	"strings"
	"testing"

	"yokefellow/api"
)

var (
	proposal = api.Word{Kind: api.Propose, From: 1, Height: 2, Round: 3, Value: 4, Valid: 2}
	wish     = api.Word{Kind: api.Wish, From: 1, Height: 2, Round: 3, Value: 4}
	promise  = api.Word{Kind: api.Promise, From: 1, Height: 2, Round: 3, Value: 4}
)

// with is a word of which some fields are others.
func with(w api.Word, change func(*api.Word)) api.Word {
	change(&w)
	return w
}

func checkGood(t *testing.T, w api.Word, want api.Errno) {
	t.Helper()
	if got := Good(w); got != want {
		t.Errorf("Good(%+v) = %d, want %d", w, got, want)
	}
}

// P1.1
func TestGoodKind(t *testing.T) {
	for _, k := range []int{api.Propose, api.Wish, api.Promise} {
		checkGood(t, with(wish, func(w *api.Word) { w.Kind = k }), api.OK)
	}
	for _, k := range []int{math.MinInt, -1, 0, 4, math.MaxInt} {
		checkGood(t, with(wish, func(w *api.Word) { w.Kind = k }), api.ErrKind)
	}
}

// P1.1
func TestGoodBounds(t *testing.T) {
	fields := []struct {
		name        string
		set         func(w *api.Word, n int)
		least, most int
		of          []api.Word
	}{
		{"From", func(w *api.Word, n int) { w.From = n }, 0, 3, []api.Word{proposal, wish, promise}},
		{"Height", func(w *api.Word, n int) { w.Height = n }, 0, 3, []api.Word{proposal, wish, promise}},
		{"Round", func(w *api.Word, n int) { w.Round = n }, 0, 5, []api.Word{wish, promise}},
		{"Round", func(w *api.Word, n int) { w.Round = n }, 3, 5, []api.Word{proposal}},
		{"Round", func(w *api.Word, n int) { w.Round, w.Valid = n, -1 }, 0, 5, []api.Word{proposal}},
		{"Value", func(w *api.Word, n int) { w.Value = n }, 0, 9, []api.Word{wish, promise}},
		{"Value", func(w *api.Word, n int) { w.Value = n }, 1, 9, []api.Word{proposal}},
		{"Valid", func(w *api.Word, n int) { w.Valid = n }, -1, 2, []api.Word{proposal}},
		{"Valid", func(w *api.Word, n int) { w.Round, w.Valid = 0, n }, -1, -1, []api.Word{proposal}},
		{"Valid", func(w *api.Word, n int) { w.Round, w.Valid = 5, n }, -1, 4, []api.Word{proposal}},
	}
	for _, f := range fields {
		for _, w := range f.of {
			for _, n := range []int{math.MinInt, math.MinInt32, f.least - 2, f.least - 1, f.most + 1, f.most + 2, math.MaxInt32, math.MaxInt} {
				checkGood(t, with(w, func(w *api.Word) { f.set(w, n) }), api.ErrRange)
			}
			for n := f.least; n <= f.most; n++ {
				checkGood(t, with(w, func(w *api.Word) { f.set(w, n) }), api.OK)
			}
		}
	}
}

// P1.1
func TestGoodValidOfOthers(t *testing.T) {
	for _, w := range []api.Word{wish, promise} {
		for _, n := range []int{math.MinInt, -2, -1, 1, 2, 3, math.MaxInt} {
			checkGood(t, with(w, func(w *api.Word) { w.Valid = n }), api.ErrForm)
		}
	}
}

// P1.1: of several errors the one that is named first.
func TestGoodFirstError(t *testing.T) {
	checkGood(t, api.Word{Kind: 4, From: 4, Valid: 1}, api.ErrKind)
	checkGood(t, api.Word{Kind: 0, From: -1, Height: -1, Round: -1, Value: -1, Valid: -2}, api.ErrKind)
	for _, k := range []int{api.Wish, api.Promise} {
		checkGood(t, api.Word{Kind: k, From: 4, Valid: 1}, api.ErrRange)
		checkGood(t, api.Word{Kind: k, Height: 4, Valid: -1}, api.ErrRange)
		checkGood(t, api.Word{Kind: k, Round: 6, Valid: 1}, api.ErrRange)
		checkGood(t, api.Word{Kind: k, Value: 10, Valid: -1}, api.ErrRange)
	}
}

// P1.2, P1.3
func TestTextOfWord(t *testing.T) {
	words := []struct {
		text string
		word api.Word
	}{
		{"112342", proposal},
		{"212340", wish},
		{"312340", promise},
		{"10001-", api.Word{Kind: api.Propose, Value: 1, Valid: -1}},
		{"133594", api.Word{Kind: api.Propose, From: 3, Height: 3, Round: 5, Value: 9, Valid: 4}},
		{"13359-", api.Word{Kind: api.Propose, From: 3, Height: 3, Round: 5, Value: 9, Valid: -1}},
		{"100110", api.Word{Kind: api.Propose, Round: 1, Value: 1}},
		{"200000", api.Word{Kind: api.Wish}},
		{"233590", api.Word{Kind: api.Wish, From: 3, Height: 3, Round: 5, Value: 9}},
		{"300000", api.Word{Kind: api.Promise}},
		{"333590", api.Word{Kind: api.Promise, From: 3, Height: 3, Round: 5, Value: 9}},
	}
	for _, c := range words {
		if text, e := Encode(c.word); text != c.text || e != api.OK {
			t.Errorf("Encode(%+v) = %q, %d, want %q", c.word, text, e, c.text)
		}
		if word, e := Decode(c.text); word != c.word || e != api.OK {
			t.Errorf("Decode(%q) = %+v, %d, want %+v", c.text, word, e, c.word)
		}
	}
}

// P1.2: Good's error, and no text.
func TestEncodeErrors(t *testing.T) {
	words := []struct {
		word api.Word
		want api.Errno
	}{
		{api.Word{}, api.ErrKind},
		{with(wish, func(w *api.Word) { w.Kind = math.MaxInt }), api.ErrKind},
		{with(wish, func(w *api.Word) { w.From = math.MinInt }), api.ErrRange},
		{with(wish, func(w *api.Word) { w.Value = -1 }), api.ErrRange},
		{with(wish, func(w *api.Word) { w.Value = 10 }), api.ErrRange},
		{with(proposal, func(w *api.Word) { w.Value = 0 }), api.ErrRange},
		{with(proposal, func(w *api.Word) { w.Valid = 3 }), api.ErrRange},
		{with(proposal, func(w *api.Word) { w.Valid = math.MinInt }), api.ErrRange},
		{with(wish, func(w *api.Word) { w.Valid = -1 }), api.ErrForm},
		{with(promise, func(w *api.Word) { w.Valid = math.MaxInt }), api.ErrForm},
	}
	for _, c := range words {
		if text, e := Encode(c.word); text != "" || e != c.want {
			t.Errorf("Encode(%+v) = %q, %d, want no text, %d", c.word, text, e, c.want)
		}
	}
}

func checkNoWord(t *testing.T, text string) {
	t.Helper()
	if w, e := Decode(text); w != (api.Word{}) || e != api.ErrForm {
		t.Errorf("Decode(%q) = %+v, %d, want no word, ErrForm", text, w, e)
	}
}

// P1.3: texts that are too short or too long, or in which a byte is no sign.
func TestDecodeNoSigns(t *testing.T) {
	for _, text := range []string{"", "2", "20000", "2000000", "200000 ", " 200000", "200000\n", "10001-1", "10001-1-", "20000０", "２０"} {
		checkNoWord(t, text)
	}
	checkNoWord(t, strings.Repeat("200000", 1000))
	for b := range 256 {
		if b == '-' || '0' <= b && b <= '9' {
			continue
		}
		for i := range 6 {
			text := []byte("112342")
			text[i] = byte(b)
			checkNoWord(t, string(text))
		}
	}
}

// P1.3: signs that make a word which is not good, whatever Good says of it.
func TestDecodeBadWords(t *testing.T) {
	for _, text := range []string{"000000", "400000", "-00000", "240000", "2-0000", "204000", "20-000", "200600", "200-00", "2000-0", "100000", "10000-", "100010", "100122", "20000-", "200001", "30000-", "300001"} {
		checkNoWord(t, text)
	}
}

// P1.1 to P1.3: of all texts of six signs those of good words, and no others, are decoded, and each comes back.
func TestAllTexts(t *testing.T) {
	const all = "-0123456789"
	count := 0
	var text [6]byte
	for n := range 11 * 11 * 11 * 11 * 11 * 11 {
		for i := range text {
			text[i] = all[n%11]
			n /= 11
		}
		s := string(text[:])
		w, e := Decode(s)
		if e != api.OK {
			continue
		}
		count++
		if back, e := Encode(w); back != s || e != api.OK {
			t.Fatalf("Encode(%+v) = %q, %d, want %q", w, back, e, s)
		}
	}
	// Valid has round + 1 numbers: 1 + 2 + .. + 6 in all.
	const proposals = 4 * 4 * 21 * 9
	const others = 2 * 4 * 4 * 6 * 10
	if count != proposals+others {
		t.Errorf("%d texts are of words, want %d", count, proposals+others)
	}
}

// P1.4
func TestLeader(t *testing.T) {
	for height := range 4 {
		for round := range 6 {
			if got, want := Leader(height, round), (height+round)%4; got != want {
				t.Errorf("Leader(%d, %d) = %d, want %d", height, round, got, want)
			}
		}
	}
}

// P1.4: numbers below 0, and those whose sum would not be one.
func TestLeaderOfAnyNumbers(t *testing.T) {
	for _, c := range []struct{ height, round, want int }{
		{-1, 0, 3},
		{0, -1, 3},
		{-1, -1, 2},
		{-2, 1, 3},
		{1, -2, 3},
		{-3, -2, 3},
		{-4, 0, 0},
		{-5, -8, 3},
		{7, -7, 0},
		{1000, 1001, 1},
		{math.MaxInt, 0, 3},
		{0, math.MaxInt, 3},
		{math.MaxInt, 1, 0},
		{math.MaxInt, math.MaxInt, 2},
		{math.MinInt, 0, 0},
		{math.MinInt, -1, 3},
		{math.MinInt, math.MinInt, 0},
		{math.MinInt, math.MaxInt, 3},
	} {
		if got := Leader(c.height, c.round); got != c.want {
			t.Errorf("Leader(%d, %d) = %d, want %d", c.height, c.round, got, c.want)
		}
	}
}
