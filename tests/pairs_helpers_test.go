package tests

import (
	"math"
	"slices"
	"strings"
	"sync"
	"testing"

	"loop.example/partialcharts/impl"
)

// The greatest numbers of a pair, of signs of a beginning and of a text that is moved, and of letters, as the document tells them.
const (
	mostOfPair      = 1000
	mostOfBeginning = 20
	mostMoved       = 40
)

// pairTold is a pair of numbers.
type pairTold struct{ from, to int }

// The next functions say what the document says of pairs, by the numbers that they move, without the program.

// moveOf moves a number by a pair.
func moveOf(p pairTold, n int) (int, bool) {
	if n < p.from {
		return 0, false
	}
	return n - p.from + p.to, true
}

// moveInTurn moves a number by pairs in turn.
func moveInTurn(pairs []pairTold, n int) (int, bool) {
	ok := true
	for _, p := range pairs {
		if n, ok = moveOf(p, n); !ok {
			return 0, false
		}
	}
	return n, true
}

// inTurnOf returns the pair that moves as some pairs in turn: the least number that is moved, and where.
func inTurnOf(pairs []pairTold) pairTold {
	for n := 0; ; n++ {
		if to, ok := moveInTurn(pairs, n); ok {
			return pairTold{n, to}
		}
	}
}

// isPairOf reports whether numbers are a pair.
func isPairOf(p pairTold) bool {
	return p.from >= 0 && p.from <= mostOfPair && p.to >= 0 && p.to <= mostOfPair
}

// wordPairsOf lists the pairs of the letters of a text.
func wordPairsOf(text string) []pairTold {
	var pairs []pairTold
	for _, letter := range strings.Split(text, "") {
		pairs = append(pairs, map[string]pairTold{"p": {0, 1}, "q": {1, 0}}[letter])
	}
	return pairs
}

// pairBelowOf reports whether a pair moves what it moves as another one.
func pairBelowOf(p, q pairTold) bool {
	for n := range mostOfPair + 2 {
		to, ok := moveOf(p, n)
		other, fine := moveOf(q, n)
		if ok && (!fine || to != other) {
			return false
		}
	}
	return true
}

// exchangedPair returns a pair with its numbers exchanged.
func exchangedPair(p pairTold) pairTold {
	return pairTold{p.to, p.from}
}

// allPairs lists the pairs of some numbers.
func allPairs(numbers []int) []pairTold {
	var pairs []pairTold
	for _, from := range numbers {
		for _, to := range numbers {
			pairs = append(pairs, pairTold{from, to})
		}
	}
	return pairs
}

// eachTwoPairs checks something for two pairs each: for small numbers, numbers beside 20, and numbers up to 1000.
func eachTwoPairs(t *testing.T, check func(t *testing.T, p, q pairTold)) {
	t.Helper()
	for _, pairs := range [][]pairTold{
		allPairs([]int{0, 1, 2, 3, 4, 5}),
		allPairs([]int{0, 18, 19, 20, 21, 22}),
		allPairs([]int{0, 1, 499, 500, 501, 999, 1000}),
	} {
		for _, p := range pairs {
			for _, q := range pairs {
				check(t, p, q)
				if t.Failed() {
					t.Fatalf("with the pairs %v and %v", p, q)
				}
			}
		}
	}
}

// noPairNumbers are numbers that no pair has.
func noPairNumbers() []int {
	return []int{-1, -2, -20, -1000, -1001, 1001, 1002, 2000, 1 << 16, 1 << 32, math.MaxInt32, math.MaxInt - 1000, math.MaxInt, math.MinInt, math.MinInt + 1000}
}

// eachBadPairs calls something with two pairs each, of which one number or more are none.
func eachBadPairs(call func(p, q pairTold)) {
	for _, bad := range noPairNumbers() {
		for _, good := range []int{0, 1, 1000} {
			for set := 1; set < 1<<4; set++ {
				numbers := []int{good, good, good, good}
				for i := range numbers {
					if set>>i&1 == 1 {
						numbers[i] = bad
					}
				}
				call(pairTold{numbers[0], numbers[1]}, pairTold{numbers[2], numbers[3]})
			}
		}
	}
}

// pairWords lists texts of the letters p and q: all short ones, and some of up to 40.
func pairWords() []string {
	words := textsOf("pq", 9)
	for _, length := range []int{20, 36, 37, 38, 39, 40} {
		words = append(words,
			strings.Repeat("p", length),
			strings.Repeat("q", length),
			strings.Repeat("q", length/2)+strings.Repeat("p", length-length/2),
			strings.Repeat("p", length/2)+strings.Repeat("q", length-length/2),
			strings.Repeat("qpp", 14)[:length],
			strings.Repeat("qqp", 14)[:length],
			strings.Repeat("pqqqpp", 7)[:length])
	}
	return words
}

// The next functions say what the document says of swaps, by the texts that they move, without the program.

// noneSwap is the swap that moves nothing.
var noneSwap = impl.Swap{None: true}

// areSigns reports whether a text has at most so many signs 0 and 1 and no others.
func areSigns(text string, most int) bool {
	return len(text) <= most && strings.Count(text, "0")+strings.Count(text, "1") == len(text)
}

// isSwapOf reports whether a swap is as told.
func isSwapOf(s impl.Swap) bool {
	if s.None {
		return s == noneSwap
	}
	return areSigns(s.From, mostOfBeginning) && areSigns(s.To, mostOfBeginning)
}

// actOf puts To in the place of the beginning From of a text of any length.
func actOf(s impl.Swap, text string) (string, bool) {
	if s.None || !strings.HasPrefix(text, s.From) {
		return "", false
	}
	return s.To + text[len(s.From):], true
}

// actInTurn moves a text by two swaps in turn.
func actInTurn(s, t impl.Swap, text string) (string, bool) {
	text, ok := actOf(s, text)
	if !ok {
		return "", false
	}
	return actOf(t, text)
}

// swapTimesOf returns the product of two swaps, which may be none.
// It looks for the shortest text that is moved by both: From of the first one with an end of From of the second one behind.
func swapTimesOf(s, t impl.Swap) impl.Swap {
	for i := len(t.From); i >= 0; i-- {
		text := s.From + t.From[i:]
		if to, ok := actInTurn(s, t, text); ok {
			return impl.Swap{From: text, To: to}
		}
	}
	return noneSwap
}

// turnedSwapOf returns the swap that moves back.
func turnedSwapOf(s impl.Swap) impl.Swap {
	return impl.Swap{From: s.To, To: s.From, None: s.None}
}

// swapBelowOf tries each text behind the texts of the other swap that could make those of the first one.
func swapBelowOf(s, t impl.Swap) bool {
	if s.None {
		return true
	}
	for i := range len(s.From) + 1 {
		if behind := s.From[i:]; !t.None && s.From == t.From+behind && s.To == t.To+behind {
			return true
		}
	}
	return false
}

// swapMeetOf returns the one of two swaps that is below the other one, or one with None.
func swapMeetOf(s, t impl.Swap) impl.Swap {
	if swapBelowOf(s, t) {
		return s
	}
	if swapBelowOf(t, s) {
		return t
	}
	return noneSwap
}

// textsOf lists all texts of at most so many of some signs, shorter ones first.
func textsOf(signs string, most int) []string {
	all := []string{""}
	row := all
	for range most {
		var longer []string
		for _, text := range row {
			for _, sign := range strings.Split(signs, "") {
				longer = append(longer, text+sign)
			}
		}
		row = longer
		all = append(all, row...)
	}
	return all
}

// swapsUpTo lists all swaps with texts of at most so many signs, and the one with None.
func swapsUpTo(most int) []impl.Swap {
	swaps := []impl.Swap{noneSwap}
	for _, from := range textsOf("01", most) {
		for _, to := range textsOf("01", most) {
			swaps = append(swaps, impl.Swap{From: from, To: to})
		}
	}
	return swaps
}

// longSwaps lists some swaps with texts of up to 20 signs, of which many have products and are below each other.
func longSwaps() []impl.Swap {
	texts := []string{"", "1"}
	for _, length := range []int{9, 10, 11, 17, 18, 19, 20} {
		texts = append(texts,
			strings.Repeat("0", length),
			strings.Repeat("01", length)[:length],
			strings.Repeat("0", length-1)+"1")
	}
	swaps := []impl.Swap{noneSwap}
	for _, from := range texts {
		for _, to := range texts {
			swaps = append(swaps, impl.Swap{From: from, To: to})
		}
	}
	return swaps
}

// smallSwaps and someSwaps are made once for all tests, which don't change them.
var (
	smallSwaps = sync.OnceValue(func() []impl.Swap { return swapsUpTo(3) })
	someSwaps  = sync.OnceValue(func() []impl.Swap { return append(swapsUpTo(4), longSwaps()...) })
)

// eachSwap checks something for each one of some swaps.
func eachSwap(t *testing.T, check func(t *testing.T, s impl.Swap)) {
	t.Helper()
	for _, s := range someSwaps() {
		check(t, s)
		if t.Failed() {
			t.Fatalf("with the swap %+v", s)
		}
	}
}

// eachTwoSwaps checks something for two swaps each: all small ones, and all long ones.
func eachTwoSwaps(t *testing.T, check func(t *testing.T, s, u impl.Swap)) {
	t.Helper()
	for _, swaps := range [][]impl.Swap{smallSwaps(), longSwaps()} {
		for _, s := range swaps {
			for _, u := range swaps {
				check(t, s, u)
				if t.Failed() {
					t.Fatalf("with the swaps %+v and %+v", s, u)
				}
			}
		}
	}
}

// noTexts are texts with other signs than 0 and 1, of which none has more than 20.
func noTexts() []string {
	return []string{"2", "/", " ", "a", "p", "-", "-1", "0 ", " 0", "01x01", "012", "2 0", "0\n", "0\x00", "\x00", "\xff", "\x30\x80", "O", "l", "٠", "０", "0١", "0,1", "00000000000000000002", "x0000000000000000000"}
}

// noSwaps are swaps that are not as told.
func noSwaps() []impl.Swap {
	var swaps []impl.Swap
	long := []string{strings.Repeat("0", 21), strings.Repeat("01", 11), strings.Repeat("1", 40), strings.Repeat("0", 100000)}
	for _, text := range append(noTexts(), long...) {
		swaps = append(swaps,
			impl.Swap{From: text},
			impl.Swap{To: text},
			impl.Swap{From: text, To: text},
			impl.Swap{From: "0", To: text},
			impl.Swap{From: text, To: "01"},
			impl.Swap{From: text, None: true},
			impl.Swap{To: text, None: true})
	}
	return append(swaps,
		impl.Swap{From: "0", None: true},
		impl.Swap{To: "1", None: true},
		impl.Swap{From: "0", To: "0", None: true},
		impl.Swap{From: "01", To: "1", None: true})
}

// eachBadSwaps calls something with two swaps each, of which one or both are none.
func eachBadSwaps(call func(s, u impl.Swap)) {
	good := []impl.Swap{{}, noneSwap, {From: "0", To: "1"}, {From: "01", To: "01"}, {To: strings.Repeat("0", 20)}}
	for _, bad := range noSwaps() {
		call(bad, bad)
		for _, s := range good {
			call(bad, s)
			call(s, bad)
		}
	}
}

// noMoved are texts that no swap is asked to move.
func noMoved() []string {
	return slices.Concat(noTexts(), []string{
		strings.Repeat("0", 41), strings.Repeat("1", 41), strings.Repeat("01", 21), strings.Repeat("0", 100000),
		strings.Repeat("0", 39) + "2", strings.Repeat("0", 39) + "\n", "2" + strings.Repeat("0", 39),
	})
}

// checkPair checks that a call has returned a pair and true.
func checkPair(t *testing.T, name string, i, j int, ok bool, want pairTold) {
	t.Helper()
	if got := (pairTold{i, j}); !ok || got != want {
		t.Errorf("%s returned %v, %v, and not %v", name, got, ok, want)
	}
}

// checkFailsPair checks that a call has returned false and zeros.
func checkFailsPair(t *testing.T, name string, i, j int, ok bool) {
	t.Helper()
	if ok || i != 0 || j != 0 {
		t.Errorf("%s returned %d, %d, %v where it fails", name, i, j, ok)
	}
}

// checkPairIfTold checks that a call has returned a pair and true, or that it fails if the pair is none.
func checkPairIfTold(t *testing.T, name string, i, j int, ok bool, want pairTold) {
	t.Helper()
	if isPairOf(want) {
		checkPair(t, name, i, j, ok, want)
	} else {
		checkFailsPair(t, name, i, j, ok)
	}
}

// checkSwap checks that a call has returned a swap and true.
func checkSwap(t *testing.T, name string, got impl.Swap, ok bool, want impl.Swap) {
	t.Helper()
	if !ok || got != want {
		t.Errorf("%s returned %+v, %v, and not %+v", name, got, ok, want)
	}
}

// checkFailsSwap checks that a call has returned false and the zero value.
func checkFailsSwap(t *testing.T, name string, got impl.Swap, ok bool) {
	t.Helper()
	if ok || got != (impl.Swap{}) {
		t.Errorf("%s returned %+v, %v where it fails", name, got, ok)
	}
}

// checkSwapIfTold checks that a call has returned a swap and true, or that it fails if the swap is none.
func checkSwapIfTold(t *testing.T, name string, got impl.Swap, ok bool, want impl.Swap) {
	t.Helper()
	if isSwapOf(want) {
		checkSwap(t, name, got, ok, want)
	} else {
		checkFailsSwap(t, name, got, ok)
	}
}
