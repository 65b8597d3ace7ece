package tests

import (
	"fmt"
	"strings"
	"testing"

	"loop.example/partialcharts/impl"
)

// parted returns the output of a script ahead of its last line, and this line.
func parted(t *testing.T, output string) (string, string) {
	t.Helper()
	if !strings.HasSuffix(output, "\n") {
		t.Fatalf("the output %q does not end with a newline", output)
	}
	last := strings.LastIndex(output[:len(output)-1], "\n") + 1
	return output[:last], output[last:]
}

func TestPromise86(t *testing.T) {
	checkScript(t, "", "given 0\n")
	for _, script := range []string{"x", "show", strings.Repeat("\n", 601), strings.Repeat("x", 1000)} {
		if impl.Execute(script) == "" {
			t.Errorf("the output of %q is empty", script)
		}
	}
	var count, full counted
	eachScript(t, 0, func(t *testing.T, script string) {
		want := impl.Execute(script)
		if want == "" {
			t.Errorf("the output is empty")
		}
		room := impl.MaxScript - len(script)
		for _, tail := range []string{"show", "give", "turned", "chart 1-", "zzz", " ", "\x00", "\r", strings.Repeat("x", room), "show" + strings.Repeat(" ", max(room-4, 0))} {
			if len(tail) > room {
				continue
			}
			checkScript(t, script+tail, want)
			count++
			if len(tail) == room {
				full++
			}
		}
	})
	count.checkAtLeast(t, 4000)
	full.checkAtLeast(t, 1500)
}

func TestPromise87(t *testing.T) {
	var count, full counted
	eachScript(t, 12, func(t *testing.T, script string) {
		lines, last := parted(t, impl.Execute(script))
		checkScript(t, script+"zzz\nchart x\n", lines+"what\nno\n"+last)
		count++
		if len(script) == impl.MaxScript-12 {
			full++
		}
	})
	count.checkAtLeast(t, 1000)
	full.checkAtLeast(t, 400)
}

func TestPromise88(t *testing.T) {
	var count, full counted
	shown := map[string]bool{}
	eachScript(t, 10, func(t *testing.T, script string) {
		lines, last := parted(t, impl.Execute(script))
		got, gotLast := parted(t, impl.Execute(script+"show\nshow\n"))
		both := strings.Split(strings.TrimPrefix(got, lines), "\n")
		if !strings.HasPrefix(got, lines) || len(both) != 3 || both[0] != both[1] || both[2] != "" || gotLast != last {
			t.Errorf("Execute with two lines show behind returned %q, %q, and without them %q, %q", got, gotLast, lines, last)
		}
		shown[both[0]] = true
		count++
		if len(script) == impl.MaxScript-10 {
			full++
		}
	})
	count.checkAtLeast(t, 1000)
	full.checkAtLeast(t, 400)
	counted(len(shown)).checkAtLeast(t, 20)
}

func TestPromise89(t *testing.T) {
	var count counted
	eachPair(t, func(t *testing.T, f, g []int) {
		product, ok := impl.ChartTimes(f, g)
		if !ok {
			return
		}
		script := "chart " + signsOf(f) + "\ntimes " + signsOf(g) + "\nshow\n"
		checkScript(t, script, "ok\nok\n"+signsOf(product)+"\ngiven 0\n")
		count++
	})
	count.checkAtLeast(t, 50000)
}

func TestPromise90(t *testing.T) {
	var count counted
	eachChart(t, func(t *testing.T, f []int) {
		_, ok := impl.WaysPeriod(f)
		list, told := impl.SemigroupOf([][]int{f})
		if !ok || !told {
			return
		}
		script := "chart " + signsOf(f) + "\ngive\nsize\n"
		checkScript(t, script, fmt.Sprintf("ok\nok\n%d\ngiven 1\n", len(list)))
		count++
	})
	count.checkAtLeast(t, 15000)
}
