package tests

import (
	"fmt"
	"math"
	"slices"
	"strings"
	"testing"

	"loop.example/partialcharts/impl"
)

func TestPairTimes(t *testing.T) {
	cases := []struct{ p, q, want pairTold }{
		{pairTold{0, 0}, pairTold{0, 0}, pairTold{0, 0}},
		{pairTold{0, 0}, pairTold{3, 4}, pairTold{3, 4}},
		{pairTold{3, 4}, pairTold{0, 0}, pairTold{3, 4}},
		{pairTold{0, 1}, pairTold{1, 0}, pairTold{0, 0}},
		{pairTold{1, 0}, pairTold{0, 1}, pairTold{1, 1}},
		{pairTold{2, 2}, pairTold{2, 2}, pairTold{2, 2}},
		{pairTold{2, 3}, pairTold{5, 1}, pairTold{4, 1}},
		{pairTold{2, 5}, pairTold{3, 1}, pairTold{2, 3}},
		{pairTold{0, 1000}, pairTold{1000, 0}, pairTold{0, 0}},
		{pairTold{1000, 0}, pairTold{0, 1000}, pairTold{1000, 1000}},
		{pairTold{1000, 1000}, pairTold{1000, 1000}, pairTold{1000, 1000}},
		{pairTold{500, 0}, pairTold{500, 0}, pairTold{1000, 0}},
		{pairTold{0, 500}, pairTold{0, 500}, pairTold{0, 1000}},
		{pairTold{999, 0}, pairTold{1, 7}, pairTold{1000, 7}},
		{pairTold{7, 1}, pairTold{0, 999}, pairTold{7, 1000}},
	}
	for _, c := range cases {
		i, j, ok := impl.PairTimes(c.p.from, c.p.to, c.q.from, c.q.to)
		checkPair(t, fmt.Sprintf("PairTimes of %v and %v", c.p, c.q), i, j, ok, c.want)
	}
	eachTwoPairs(t, func(t *testing.T, p, q pairTold) {
		i, j, ok := impl.PairTimes(p.from, p.to, q.from, q.to)
		checkPairIfTold(t, "PairTimes", i, j, ok, inTurnOf([]pairTold{p, q}))
	})
}

// TestPairTimesAbove asks for products of which one number is more than 1000.
func TestPairTimesAbove(t *testing.T) {
	for _, c := range [][2]pairTold{
		{{500, 0}, {501, 0}},
		{{0, 500}, {0, 501}},
		{{1000, 0}, {1, 0}},
		{{1000, 0}, {1000, 0}},
		{{1000, 2}, {3, 1000}},
		{{1, 3}, {2, 1000}},
		{{0, 1000}, {0, 1}},
		{{0, 1000}, {0, 1000}},
		{{1000, 999}, {1000, 0}},
	} {
		i, j, ok := impl.PairTimes(c[0].from, c[0].to, c[1].from, c[1].to)
		checkFailsPair(t, fmt.Sprintf("PairTimes of %v", c), i, j, ok)
	}
}

func TestPairTimesInvalid(t *testing.T) {
	eachBadPairs(func(p, q pairTold) {
		i, j, ok := impl.PairTimes(p.from, p.to, q.from, q.to)
		checkFailsPair(t, fmt.Sprintf("PairTimes of %v and %v", p, q), i, j, ok)
	})
	// Numbers that are none fail where the product alone would be a pair.
	for _, c := range [][2]pairTold{
		{{0, 1001}, {1001, 0}},
		{{0, -1}, {0, 1}},
		{{5, 3}, {-1, 2}},
		{{-1, 2}, {3, 4}},
		{{1, 2}, {3, -1}},
		{{1, 2000}, {2000, 1}},
		{{0, math.MaxInt}, {math.MaxInt, 0}},
		{{0, math.MinInt}, {math.MinInt, 0}},
	} {
		i, j, ok := impl.PairTimes(c[0].from, c[0].to, c[1].from, c[1].to)
		checkFailsPair(t, fmt.Sprintf("PairTimes of %v", c), i, j, ok)
	}
}

func TestPairWord(t *testing.T) {
	cases := []struct {
		text string
		want pairTold
	}{
		{"", pairTold{0, 0}},
		{"p", pairTold{0, 1}},
		{"q", pairTold{1, 0}},
		{"pq", pairTold{0, 0}},
		{"qp", pairTold{1, 1}},
		{"qpp", pairTold{1, 2}},
		{"qqp", pairTold{2, 1}},
		{"ppqqq", pairTold{1, 0}},
		{"pqqppqqqp", pairTold{2, 1}},
		{strings.Repeat("p", 40), pairTold{0, 40}},
		{strings.Repeat("q", 40), pairTold{40, 0}},
		{strings.Repeat("q", 20) + strings.Repeat("p", 20), pairTold{20, 20}},
		{strings.Repeat("p", 20) + strings.Repeat("q", 20), pairTold{0, 0}},
	}
	for _, c := range cases {
		i, j, ok := impl.PairWord(c.text)
		checkPair(t, fmt.Sprintf("PairWord of %q", c.text), i, j, ok, c.want)
	}
	for _, text := range pairWords() {
		i, j, ok := impl.PairWord(text)
		checkPair(t, fmt.Sprintf("PairWord of %q", text), i, j, ok, inTurnOf(wordPairsOf(text)))
	}
}

func TestPairWordInvalid(t *testing.T) {
	long := strings.Repeat("p", 40)
	for _, text := range []string{
		"P", "Q", "x", " ", "o", "r", "pp ", " p", "pxq", "p q", "qpQ", "Pq", "p\x00", "\xff", "p\n", "01", "é", "ｐ",
		long + "p", long + "q", strings.Repeat("q", 41), strings.Repeat("pq", 21), strings.Repeat("p", 1001), strings.Repeat("pq", 100000),
		long[1:] + "x", "x" + long[1:], long + "x", strings.Repeat("x", 40),
	} {
		i, j, ok := impl.PairWord(text)
		checkFailsPair(t, fmt.Sprintf("PairWord of %.50q", text), i, j, ok)
	}
}

func TestPairBelow(t *testing.T) {
	cases := []struct {
		p, q pairTold
		want bool
	}{
		{pairTold{0, 0}, pairTold{0, 0}, true},
		{pairTold{1, 1}, pairTold{0, 0}, true},
		{pairTold{0, 0}, pairTold{1, 1}, false},
		{pairTold{1000, 1000}, pairTold{0, 0}, true},
		{pairTold{0, 0}, pairTold{1000, 1000}, false},
		{pairTold{3, 5}, pairTold{1, 3}, true},
		{pairTold{1, 3}, pairTold{3, 5}, false},
		{pairTold{3, 5}, pairTold{1, 4}, false},
		{pairTold{3, 5}, pairTold{1, 2}, false},
		{pairTold{3, 5}, pairTold{3, 5}, true},
		{pairTold{3, 5}, pairTold{5, 3}, false},
		{pairTold{1000, 0}, pairTold{1000, 0}, true},
		{pairTold{1000, 1}, pairTold{999, 0}, true},
		{pairTold{999, 0}, pairTold{1000, 1}, false},
	}
	for _, c := range cases {
		name := fmt.Sprintf("PairBelow of %v and %v", c.p, c.q)
		checkHolds(t, name, impl.PairBelow(c.p.from, c.p.to, c.q.from, c.q.to), c.want)
	}
	eachTwoPairs(t, func(t *testing.T, p, q pairTold) {
		checkHolds(t, "PairBelow", impl.PairBelow(p.from, p.to, q.from, q.to), pairBelowOf(p, q))
	})
}

// TestPairBelowBySteps goes from each of some pairs up and down by steps, by the same in both numbers and by unlike ones.
func TestPairBelowBySteps(t *testing.T) {
	for _, q := range allPairs([]int{0, 1, 3, 500, 998, 1000}) {
		for _, step := range []int{-1000, -500, -3, -2, -1, 0, 1, 2, 3, 500, 1000} {
			for _, other := range []int{step - 1, step, step + 1, -step} {
				p := pairTold{q.from + step, q.to + other}
				name := fmt.Sprintf("PairBelow of %v and %v", p, q)
				checkHolds(t, name, impl.PairBelow(p.from, p.to, q.from, q.to), isPairOf(p) && step == other && step >= 0)
				checkHolds(t, name+" exchanged", impl.PairBelow(q.from, q.to, p.from, p.to), isPairOf(p) && step == other && step <= 0)
			}
		}
	}
}

func TestPairBelowInvalid(t *testing.T) {
	eachBadPairs(func(p, q pairTold) {
		checkHolds(t, fmt.Sprintf("PairBelow of %v and %v", p, q), impl.PairBelow(p.from, p.to, q.from, q.to), false)
	})
	for _, c := range [][2]pairTold{
		{{1001, 1001}, {0, 0}},
		{{1001, 1000}, {1, 0}},
		{{1000, 1001}, {0, 1}},
		{{0, 0}, {-1, -1}},
		{{1, 0}, {0, -1}},
		{{0, 1}, {-1, 0}},
		{{math.MaxInt, math.MaxInt}, {0, 0}},
		{{0, 0}, {math.MinInt, math.MinInt}},
		{{math.MaxInt, math.MaxInt}, {math.MinInt, math.MinInt}},
	} {
		checkHolds(t, fmt.Sprintf("PairBelow of %v", c), impl.PairBelow(c[0].from, c[0].to, c[1].from, c[1].to), false)
	}
}

func TestSwapIn(t *testing.T) {
	for _, s := range []impl.Swap{
		{},
		{None: true},
		{From: "0"},
		{To: "1"},
		{From: "01", To: "01"},
		{From: strings.Repeat("0", 20), To: strings.Repeat("1", 20)},
	} {
		checkHolds(t, fmt.Sprintf("SwapIn of %+v", s), impl.SwapIn(s), true)
	}
	for length := 18; length <= 23; length++ {
		text := strings.Repeat("10", length)[:length]
		for _, s := range []impl.Swap{{From: text}, {To: text}, {From: text, To: "0"}, {From: text, To: text}} {
			checkHolds(t, fmt.Sprintf("SwapIn of %+v", s), impl.SwapIn(s), length <= 20)
		}
	}
	eachSwap(t, func(t *testing.T, s impl.Swap) {
		checkHolds(t, "isSwapOf", isSwapOf(s), true)
		checkHolds(t, "SwapIn", impl.SwapIn(s), true)
	})
	for _, s := range noSwaps() {
		checkHolds(t, "isSwapOf", isSwapOf(s), false)
		checkHolds(t, fmt.Sprintf("SwapIn of %.100q", s.From+" "+s.To), impl.SwapIn(s), false)
	}
}

// TestSwapInByOneByte puts each byte in each place of both texts.
func TestSwapInByOneByte(t *testing.T) {
	for value := range 256 {
		for _, text := range []string{"0", "10", "010101", strings.Repeat("1", 20)} {
			for i := range len(text) {
				changed := text[:i] + string([]byte{byte(value)}) + text[i+1:]
				want := value == '0' || value == '1'
				checkHolds(t, fmt.Sprintf("SwapIn from %q", changed), impl.SwapIn(impl.Swap{From: changed, To: "1"}), want)
				checkHolds(t, fmt.Sprintf("SwapIn to %q", changed), impl.SwapIn(impl.Swap{To: changed}), want)
			}
		}
	}
}

func TestSwapTimes(t *testing.T) {
	cases := []struct{ s, u, want impl.Swap }{
		{impl.Swap{}, impl.Swap{}, impl.Swap{}},
		{impl.Swap{}, impl.Swap{From: "01", To: "1"}, impl.Swap{From: "01", To: "1"}},
		{impl.Swap{From: "01", To: "1"}, impl.Swap{}, impl.Swap{From: "01", To: "1"}},
		{impl.Swap{From: "0", To: "1"}, impl.Swap{From: "10", To: "0"}, impl.Swap{From: "00", To: "0"}},
		{impl.Swap{From: "0", To: "10"}, impl.Swap{From: "1", To: "01"}, impl.Swap{From: "0", To: "010"}},
		{impl.Swap{From: "0", To: "1"}, impl.Swap{From: "1", To: "0"}, impl.Swap{From: "0", To: "0"}},
		{impl.Swap{From: "0", To: "1"}, impl.Swap{From: "0", To: "1"}, noneSwap},
		{impl.Swap{From: "0", To: "10"}, impl.Swap{From: "11", To: ""}, noneSwap},
		{impl.Swap{From: "0", To: "10"}, impl.Swap{From: "111", To: ""}, noneSwap},
		{impl.Swap{From: "0", To: "101"}, impl.Swap{From: "11", To: ""}, noneSwap},
		{impl.Swap{From: "0", To: "01"}, impl.Swap{From: "1", To: ""}, noneSwap},
		{impl.Swap{From: "0", To: ""}, impl.Swap{From: "", To: "1"}, impl.Swap{From: "0", To: "1"}},
		{impl.Swap{From: "", To: "0"}, impl.Swap{From: "0", To: ""}, impl.Swap{}},
		{impl.Swap{From: "0", To: ""}, impl.Swap{From: "", To: "0"}, impl.Swap{From: "0", To: "0"}},
		{impl.Swap{From: "0", To: ""}, impl.Swap{From: "11", To: "1"}, impl.Swap{From: "011", To: "1"}},
		{noneSwap, noneSwap, noneSwap},
		{noneSwap, impl.Swap{}, noneSwap},
		{impl.Swap{}, noneSwap, noneSwap},
		{noneSwap, impl.Swap{From: "0", To: "1"}, noneSwap},
		{impl.Swap{From: "0", To: "1"}, noneSwap, noneSwap},
		{impl.Swap{From: "0", To: ""}, noneSwap, noneSwap},
		{noneSwap, impl.Swap{From: "", To: "0"}, noneSwap},
	}
	for _, c := range cases {
		got, ok := impl.SwapTimes(c.s, c.u)
		checkSwap(t, fmt.Sprintf("SwapTimes of %+v and %+v", c.s, c.u), got, ok, c.want)
	}
	eachTwoSwaps(t, func(t *testing.T, s, u impl.Swap) {
		got, ok := impl.SwapTimes(s, u)
		checkSwapIfTold(t, "SwapTimes", got, ok, swapTimesOf(s, u))
	})
}

// TestSwapTimesMoves compares what products move with what both move in turn, for all short texts.
func TestSwapTimesMoves(t *testing.T) {
	texts := textsOf("01", 7)
	for _, s := range swapsUpTo(2) {
		for _, u := range swapsUpTo(2) {
			product := must[impl.Swap](t, "SwapTimes")(impl.SwapTimes(s, u))
			for _, text := range texts {
				got, ok := actOf(product, text)
				want, fine := actInTurn(s, u, text)
				if got != want || ok != fine {
					t.Fatalf("the product %+v of %+v and %+v moves %q to %q, %v, and not to %q, %v", product, s, u, text, got, ok, want, fine)
				}
			}
		}
	}
}

// TestSwapTimesAtTheLimits asks for products whose texts have 20 signs and more.
func TestSwapTimesAtTheLimits(t *testing.T) {
	for from := 17; from <= 20; from++ {
		for behind := 0; behind <= 20; behind++ {
			long, end := strings.Repeat("0", from), strings.Repeat("01", 20)[:behind]
			for _, c := range []struct{ s, u, want impl.Swap }{
				{impl.Swap{From: long}, impl.Swap{From: end}, impl.Swap{From: long + end}},
				{impl.Swap{From: long}, impl.Swap{From: end, To: "1"}, impl.Swap{From: long + end, To: "1"}},
				{impl.Swap{To: end}, impl.Swap{To: long}, impl.Swap{To: long + end}},
				{impl.Swap{From: "11", To: end}, impl.Swap{To: long}, impl.Swap{From: "11", To: long + end}},
			} {
				got, ok := impl.SwapTimes(c.s, c.u)
				name := fmt.Sprintf("SwapTimes of %+v and %+v", c.s, c.u)
				if from+behind <= 20 {
					checkSwap(t, name, got, ok, c.want)
				} else {
					checkFailsSwap(t, name, got, ok)
				}
			}
		}
	}
}

func TestSwapTurned(t *testing.T) {
	cases := []struct{ s, want impl.Swap }{
		{impl.Swap{}, impl.Swap{}},
		{noneSwap, noneSwap},
		{impl.Swap{From: "0", To: "11"}, impl.Swap{From: "11", To: "0"}},
		{impl.Swap{From: "", To: "1"}, impl.Swap{From: "1", To: ""}},
		{impl.Swap{From: "01", To: "01"}, impl.Swap{From: "01", To: "01"}},
		{impl.Swap{From: strings.Repeat("0", 20)}, impl.Swap{To: strings.Repeat("0", 20)}},
	}
	for _, c := range cases {
		got, ok := impl.SwapTurned(c.s)
		checkSwap(t, fmt.Sprintf("SwapTurned of %+v", c.s), got, ok, c.want)
	}
	eachSwap(t, func(t *testing.T, s impl.Swap) {
		got, ok := impl.SwapTurned(s)
		checkSwap(t, "SwapTurned", got, ok, turnedSwapOf(s))
	})
}

func TestSwapIdem(t *testing.T) {
	cases := []struct {
		s    impl.Swap
		want bool
	}{
		{impl.Swap{}, true},
		{noneSwap, true},
		{impl.Swap{From: "01", To: "01"}, true},
		{impl.Swap{From: "01", To: "10"}, false},
		{impl.Swap{From: "0", To: ""}, false},
		{impl.Swap{From: "", To: "0"}, false},
		{impl.Swap{From: "0", To: "00"}, false},
		{impl.Swap{From: strings.Repeat("1", 20), To: strings.Repeat("1", 20)}, true},
		{impl.Swap{From: strings.Repeat("1", 20), To: strings.Repeat("1", 19) + "0"}, false},
	}
	for _, c := range cases {
		checkHolds(t, fmt.Sprintf("SwapIdem of %+v", c.s), impl.SwapIdem(c.s), c.want)
	}
	eachSwap(t, func(t *testing.T, s impl.Swap) {
		checkHolds(t, "SwapIdem", impl.SwapIdem(s), s.From == s.To)
	})
	for _, s := range noSwaps() {
		checkHolds(t, fmt.Sprintf("SwapIdem of %.100q", s.From+" "+s.To), impl.SwapIdem(s), false)
	}
}

func TestSwapAct(t *testing.T) {
	zeros := strings.Repeat("0", 40)
	cases := []struct {
		s          impl.Swap
		text, want string
	}{
		{impl.Swap{}, "", ""},
		{impl.Swap{}, "01", "01"},
		{impl.Swap{From: "00", To: "0"}, "0011", "011"},
		{impl.Swap{From: "00", To: "0"}, "00", "0"},
		{impl.Swap{From: "0", To: ""}, "0", ""},
		{impl.Swap{From: "0", To: ""}, "00", "0"},
		{impl.Swap{From: "", To: "01"}, "", "01"},
		{impl.Swap{From: "", To: "01"}, "11", "0111"},
		{impl.Swap{From: "1", To: "1"}, "10", "10"},
		{impl.Swap{From: "01", To: "1"}, "0101", "101"},
		{impl.Swap{From: "0", To: "1"}, zeros, "1" + zeros[1:]},
		{impl.Swap{From: "0", To: "11"}, zeros, "11" + zeros[1:]},
		{impl.Swap{To: strings.Repeat("1", 20)}, zeros, strings.Repeat("1", 20) + zeros},
		{impl.Swap{From: zeros[:20], To: ""}, zeros, zeros[:20]},
		{impl.Swap{From: zeros[:20], To: "1"}, zeros[:20], "1"},
	}
	for _, c := range cases {
		got, ok := impl.SwapAct(c.s, c.text)
		checkText(t, fmt.Sprintf("SwapAct of %+v and %q", c.s, c.text), got, ok, c.want)
	}
	texts := textsOf("01", 6)
	for _, s := range smallSwaps() {
		for _, text := range texts {
			checkSwapAct(t, s, text)
		}
	}
	for _, s := range longSwaps() {
		for length := 0; length <= 40; length++ {
			checkSwapAct(t, s, strings.Repeat("0", length))
			checkSwapAct(t, s, strings.Repeat("01", length)[:length])
			checkSwapAct(t, s, (s.From + strings.Repeat("110", length))[:length])
		}
	}
}

// checkSwapAct checks what SwapAct returns for a text of at most 40 signs.
func checkSwapAct(t *testing.T, s impl.Swap, text string) {
	t.Helper()
	got, ok := impl.SwapAct(s, text)
	name := fmt.Sprintf("SwapAct of %+v and %q", s, text)
	if want, fine := actOf(s, text); fine {
		checkText(t, name, got, ok, want)
	} else {
		checkFailsText(t, name, got, ok)
	}
}

// TestSwapActNotMoved asks for texts that do not begin with the beginning, shorter ones among them.
func TestSwapActNotMoved(t *testing.T) {
	for _, c := range []struct {
		s    impl.Swap
		text string
	}{
		{noneSwap, ""},
		{noneSwap, "0"},
		{noneSwap, strings.Repeat("0", 40)},
		{impl.Swap{From: "0"}, ""},
		{impl.Swap{From: "0"}, "1"},
		{impl.Swap{From: "00"}, "0"},
		{impl.Swap{From: "01", To: "0"}, "0010"},
		{impl.Swap{From: "01", To: "0"}, "101"},
		{impl.Swap{From: "010", To: "1"}, "01"},
		{impl.Swap{From: strings.Repeat("0", 20)}, strings.Repeat("0", 19)},
		{impl.Swap{From: strings.Repeat("0", 20)}, strings.Repeat("0", 19) + strings.Repeat("1", 21)},
	} {
		got, ok := impl.SwapAct(c.s, c.text)
		checkFailsText(t, fmt.Sprintf("SwapAct of %+v and %q", c.s, c.text), got, ok)
	}
}

func TestSwapBelow(t *testing.T) {
	cases := []struct {
		s, u impl.Swap
		want bool
	}{
		{impl.Swap{}, impl.Swap{}, true},
		{noneSwap, noneSwap, true},
		{noneSwap, impl.Swap{}, true},
		{noneSwap, impl.Swap{From: "0", To: "1"}, true},
		{impl.Swap{}, noneSwap, false},
		{impl.Swap{From: "0", To: "1"}, noneSwap, false},
		{impl.Swap{From: "0", To: "1"}, impl.Swap{From: "0", To: "1"}, true},
		{impl.Swap{From: "01", To: "11"}, impl.Swap{From: "0", To: "1"}, true},
		{impl.Swap{From: "0", To: "1"}, impl.Swap{From: "01", To: "11"}, false},
		{impl.Swap{From: "01", To: "10"}, impl.Swap{From: "0", To: "1"}, false},
		{impl.Swap{From: "01", To: "1"}, impl.Swap{From: "0", To: "1"}, false},
		{impl.Swap{From: "0", To: "11"}, impl.Swap{From: "0", To: "1"}, false},
		{impl.Swap{From: "10", To: "11"}, impl.Swap{From: "0", To: "1"}, false},
		{impl.Swap{From: "01", To: "01"}, impl.Swap{From: "0", To: "1"}, false},
		{impl.Swap{From: "0", To: "0"}, impl.Swap{}, true},
		{impl.Swap{}, impl.Swap{From: "0", To: "0"}, false},
		{impl.Swap{From: "0", To: "1"}, impl.Swap{}, false},
		{impl.Swap{From: "0", To: "10"}, impl.Swap{To: "1"}, true},
		{impl.Swap{From: "10", To: "0"}, impl.Swap{From: "1", To: ""}, true},
		{impl.Swap{From: strings.Repeat("0", 20), To: strings.Repeat("0", 19)}, impl.Swap{From: "0"}, true},
		{impl.Swap{From: strings.Repeat("0", 20), To: strings.Repeat("0", 20)}, impl.Swap{From: "0"}, false},
	}
	for _, c := range cases {
		checkHolds(t, fmt.Sprintf("SwapBelow of %+v and %+v", c.s, c.u), impl.SwapBelow(c.s, c.u), c.want)
	}
	eachTwoSwaps(t, func(t *testing.T, s, u impl.Swap) {
		checkHolds(t, "SwapBelow", impl.SwapBelow(s, u), swapBelowOf(s, u))
	})
}

func TestSwapMeet(t *testing.T) {
	cases := []struct{ s, u, want impl.Swap }{
		{impl.Swap{}, impl.Swap{}, impl.Swap{}},
		{noneSwap, noneSwap, noneSwap},
		{noneSwap, impl.Swap{From: "0", To: "1"}, noneSwap},
		{impl.Swap{From: "0", To: "1"}, noneSwap, noneSwap},
		{impl.Swap{}, noneSwap, noneSwap},
		{impl.Swap{From: "0", To: "1"}, impl.Swap{From: "0", To: "1"}, impl.Swap{From: "0", To: "1"}},
		{impl.Swap{From: "01", To: "11"}, impl.Swap{From: "0", To: "1"}, impl.Swap{From: "01", To: "11"}},
		{impl.Swap{From: "0", To: "1"}, impl.Swap{From: "01", To: "11"}, impl.Swap{From: "01", To: "11"}},
		{impl.Swap{From: "0", To: "1"}, impl.Swap{From: "01", To: "10"}, noneSwap},
		{impl.Swap{From: "0", To: "1"}, impl.Swap{From: "0", To: "0"}, noneSwap},
		{impl.Swap{From: "0", To: "1"}, impl.Swap{From: "1", To: "0"}, noneSwap},
		{impl.Swap{From: "00", To: "10"}, impl.Swap{From: "01", To: "11"}, noneSwap},
		{impl.Swap{}, impl.Swap{From: "01", To: "01"}, impl.Swap{From: "01", To: "01"}},
		{impl.Swap{}, impl.Swap{From: "01", To: "1"}, noneSwap},
	}
	for _, c := range cases {
		got, ok := impl.SwapMeet(c.s, c.u)
		checkSwap(t, fmt.Sprintf("SwapMeet of %+v and %+v", c.s, c.u), got, ok, c.want)
	}
	eachTwoSwaps(t, func(t *testing.T, s, u impl.Swap) {
		got, ok := impl.SwapMeet(s, u)
		checkSwap(t, "SwapMeet", got, ok, swapMeetOf(s, u))
	})
}

// TestSwapMeetIsGreatest looks for swaps below two swaps that are not below what they have in common.
func TestSwapMeetIsGreatest(t *testing.T) {
	swaps := swapsUpTo(2)
	for _, s := range swaps {
		for _, u := range swaps {
			meet := must[impl.Swap](t, "SwapMeet")(impl.SwapMeet(s, u))
			for _, lower := range swaps {
				both := impl.SwapBelow(lower, s) && impl.SwapBelow(lower, u)
				if both != impl.SwapBelow(lower, meet) {
					t.Fatalf("SwapMeet of %+v and %+v returned %+v, but there is %+v", s, u, meet, lower)
				}
			}
		}
	}
}

// TestSwapsInvalid asks each function for swaps that are none, and for texts that are none.
func TestSwapsInvalid(t *testing.T) {
	for _, s := range noSwaps() {
		got, ok := impl.SwapTurned(s)
		checkFailsSwap(t, "SwapTurned", got, ok)
		for _, text := range []string{"", "0", "01", s.From, s.From + "0"} {
			moved, ok := impl.SwapAct(s, text)
			checkFailsText(t, "SwapAct of no swap", moved, ok)
		}
	}
	eachBadSwaps(func(s, u impl.Swap) {
		got, ok := impl.SwapTimes(s, u)
		checkFailsSwap(t, "SwapTimes", got, ok)
		got, ok = impl.SwapMeet(s, u)
		checkFailsSwap(t, "SwapMeet", got, ok)
		checkHolds(t, "SwapBelow", impl.SwapBelow(s, u), false)
	})
	for _, text := range noMoved() {
		for _, s := range []impl.Swap{{}, noneSwap, {To: "1"}, {From: "0"}, {From: "01", To: "0"}, {From: text[:1]}} {
			moved, ok := impl.SwapAct(s, text)
			checkFailsText(t, fmt.Sprintf("SwapAct of no text %.50q", text), moved, ok)
		}
	}
}

// TestSwapsOfOneNone asks with a swap that is none beside one with which it would be below, or make nothing move.
func TestSwapsOfOneNone(t *testing.T) {
	long := strings.Repeat("0", 21)
	for _, c := range [][2]impl.Swap{
		{{From: long, To: long}, {}},
		{{From: long, To: long}, {From: "0", To: "0"}},
		{{From: "02", To: "12"}, {From: "0", To: "1"}},
		{{From: "0", None: true}, {From: "0"}},
		{{From: "0", None: true}, noneSwap},
		{noneSwap, {From: "2"}},
		{noneSwap, {To: "1", None: true}},
		{noneSwap, {From: long}},
	} {
		for _, both := range [][2]impl.Swap{c, {c[1], c[0]}} {
			got, ok := impl.SwapTimes(both[0], both[1])
			checkFailsSwap(t, fmt.Sprintf("SwapTimes of %+v", both), got, ok)
			got, ok = impl.SwapMeet(both[0], both[1])
			checkFailsSwap(t, fmt.Sprintf("SwapMeet of %+v", both), got, ok)
			checkHolds(t, fmt.Sprintf("SwapBelow of %+v", both), impl.SwapBelow(both[0], both[1]), false)
		}
	}
}

// TestSwapsStay asks twice for what is made of some swaps, which is to be the same.
func TestSwapsStay(t *testing.T) {
	swaps := slices.Concat(swapsUpTo(1), longSwaps()[:40], noSwaps()[:20])
	for _, s := range swaps {
		for _, u := range swaps {
			first, ok := impl.SwapTimes(s, u)
			impl.SwapTimes(u, s)
			impl.SwapMeet(s, u)
			impl.SwapAct(s, "01")
			if second, fine := impl.SwapTimes(s, u); first != second || ok != fine {
				t.Errorf("SwapTimes of %+v and %+v returned %+v and then %+v", s, u, first, second)
			}
		}
	}
}
