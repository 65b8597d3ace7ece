package tests

import (
	"fmt"
	"testing"

	"loop.example/partialcharts/impl"
)

// timesPair returns the product of pairs one behind the other, and whether each product was told.
func timesPair(first pairTold, others ...pairTold) (pairTold, bool) {
	product := first
	for _, q := range others {
		from, to, ok := impl.PairTimes(product.from, product.to, q.from, q.to)
		if !ok {
			return pairTold{}, false
		}
		product = pairTold{from, to}
	}
	return product, true
}

// timesSwap returns the product of swaps one behind the other, and whether each product was told.
func timesSwap(first impl.Swap, others ...impl.Swap) (impl.Swap, bool) {
	product, ok := first, true
	for _, other := range others {
		if product, ok = impl.SwapTimes(product, other); !ok {
			return impl.Swap{}, false
		}
	}
	return product, true
}

// turnedSwap returns what SwapTurned returns for a swap that is one.
func turnedSwap(t *testing.T, s impl.Swap) impl.Swap {
	t.Helper()
	return must[impl.Swap](t, "SwapTurned")(impl.SwapTurned(s))
}

// moveByPairs moves 20 by pairs in turn, if they do, as the document tells it.
func moveByPairs(pairs ...pairTold) (int, bool) {
	return moveInTurn(pairs, 20)
}

func TestPromise58(t *testing.T) {
	var count, moved counted
	eachTwoPairs(t, func(t *testing.T, p, q pairTold) {
		product, ok := timesPair(p, q)
		if !ok {
			return
		}
		count++
		i, j, ok := impl.PairTimes(q.to, q.from, p.to, p.from)
		checkPair(t, "PairTimes of both exchanged", i, j, ok, exchangedPair(product))
		if want, ok := moveByPairs(p, q); ok {
			got, ok := moveByPairs(product)
			checkNumber(t, "where the product moves 20", got, ok, want)
			moved++
		}
	})
	count.checkAtLeast(t, 4000)
	moved.checkAtLeast(t, 1500)
}

func TestPromise59(t *testing.T) {
	var count counted
	for _, text := range pairWords() {
		i, j, ok := impl.PairWord(text)
		checkHolds(t, "PairWord", ok, true)
		if len(text) > 38 {
			continue
		}
		for _, longer := range []string{"pq" + text, text + "pq"} {
			k, l, ok := impl.PairWord(longer)
			checkPair(t, fmt.Sprintf("PairWord of %q", longer), k, l, ok, pairTold{i, j})
		}
		if longer := "pq" + text + "pq"; len(longer) <= 40 {
			k, l, ok := impl.PairWord(longer)
			checkPair(t, fmt.Sprintf("PairWord of %q", longer), k, l, ok, pairTold{i, j})
		}
		count++
	}
	count.checkAtLeast(t, 1000)
}

func TestPromise60(t *testing.T) {
	var count counted
	eachTwoPairs(t, func(t *testing.T, p, q pairTold) {
		if !impl.PairBelow(p.from, p.to, q.from, q.to) {
			return
		}
		if got, ok := timesPair(p, exchangedPair(p), q); ok {
			checkPair(t, "the product of it, it turned and the second one", got.from, got.to, ok, p)
			count++
		}
	})
	count.checkAtLeast(t, 200)
}

func TestPromise61(t *testing.T) {
	var count counted
	eachSwap(t, func(t *testing.T, s impl.Swap) {
		if !impl.SwapIn(s) {
			return
		}
		got, ok := timesSwap(s, turnedSwap(t, s), s)
		checkSwap(t, "the product of it, it turned and it", got, ok, s)
		count++
	})
	count.checkAtLeast(t, len(someSwaps()))
}

func TestPromise62(t *testing.T) {
	var moved, unmoved counted
	eachTwoSwaps(t, func(t *testing.T, s, u impl.Swap) {
		product, ok := impl.SwapTimes(s, u)
		if !ok {
			return
		}
		back, ok := timesSwap(turnedSwap(t, u), turnedSwap(t, s))
		checkSwap(t, "the product of both turned", turnedSwap(t, product), ok, back)
		text := s.From + u.From + "01"
		if len(text) > 20 {
			return
		}
		between, ok := impl.SwapAct(s, text)
		want, fine := impl.SwapAct(u, between)
		got, told := impl.SwapAct(product, text)
		if ok && fine {
			checkText(t, "SwapAct of the product", got, told, want)
			moved++
		} else {
			checkFailsText(t, "SwapAct of the product", got, told)
			unmoved++
		}
	})
	moved.checkAtLeast(t, 10000)
	unmoved.checkAtLeast(t, 10000)
}

func TestPromise63(t *testing.T) {
	var count, moving counted
	eachTwoSwaps(t, func(t *testing.T, s, u impl.Swap) {
		left, ok := timesSwap(s, u, s)
		other, fine := impl.SwapTimes(u, s)
		if !ok || !fine {
			return
		}
		// As the product on the left is told, so is the one on the right.
		right, ok := impl.SwapTimes(s, other)
		checkSwap(t, "the product with that of the second and the first one", right, ok, left)
		count++
		if !left.None {
			moving++
		}
	})
	count.checkAtLeast(t, 50000)
	moving.checkAtLeast(t, 5000)
}

func TestPromise64(t *testing.T) {
	eachSwap(t, func(t *testing.T, s impl.Swap) {
		got, ok := impl.SwapTurned(turnedSwap(t, s))
		checkSwap(t, "SwapTurned twice", got, ok, s)
	})
}

func TestPromise65(t *testing.T) {
	var count counted
	eachSwap(t, func(t *testing.T, s impl.Swap) {
		if impl.SwapIdem(s) {
			got, ok := impl.SwapTimes(s, s)
			checkSwap(t, "the product with itself", got, ok, s)
			count++
		}
	})
	count.checkAtLeast(t, 50)
}

func TestPromise66(t *testing.T) {
	var count, long counted
	texts := textsOf("01", 4)
	check := func(t *testing.T, s impl.Swap, text string) {
		got, ok := impl.SwapAct(s, text)
		if !ok {
			return
		}
		if len(got) > 40 {
			long++
			return
		}
		back, ok := impl.SwapAct(turnedSwap(t, s), got)
		checkText(t, "SwapAct of the turned swap", back, ok, text)
		count++
	}
	eachSwap(t, func(t *testing.T, s impl.Swap) {
		for _, text := range texts {
			check(t, s, text)
			check(t, s, s.From+text)
			check(t, s, (s.From + text + "0011001100110011001100110011001100110011")[:40])
		}
	})
	count.checkAtLeast(t, 50000)
	long.checkAtLeast(t, 1000)
}

func TestPromise67(t *testing.T) {
	var count, moved counted
	eachTwoSwaps(t, func(t *testing.T, s, u impl.Swap) {
		if !impl.SwapBelow(s, u) {
			return
		}
		count++
		checkHolds(t, "SwapBelow of both turned", impl.SwapBelow(turnedSwap(t, s), turnedSwap(t, u)), true)
		if want, ok := impl.SwapAct(s, s.From+"10"); ok {
			got, ok := impl.SwapAct(u, s.From+"10")
			checkText(t, "SwapAct of the second one", got, ok, want)
			moved++
		}
	})
	count.checkAtLeast(t, 1500)
	moved.checkAtLeast(t, 1000)
}

func TestPromise68(t *testing.T) {
	var count counted
	eachTwoSwaps(t, func(t *testing.T, s, u impl.Swap) {
		got, ok := impl.SwapMeet(s, u)
		checkHolds(t, "SwapMeet", ok, true)
		checkHolds(t, "SwapBelow of it and the first one", impl.SwapBelow(got, s), true)
		checkHolds(t, "SwapBelow of it and the second one", impl.SwapBelow(got, u), true)
		exchanged, ok := impl.SwapMeet(u, s)
		checkSwap(t, "SwapMeet of both exchanged", exchanged, ok, got)
		if !got.None {
			count++
		}
	})
	count.checkAtLeast(t, 1500)
}
