package tests

import (
	"fmt"
	"math"
	"slices"
	"strings"
	"testing"

	"loop.example/g01304/impl"
)

// Promise 11: every function accepts all arguments without panicking and modifies none of them.

func badGears() []impl.Gears {
	all := []impl.Gears{
		{}, gearsOf(2, 5), {Lock: lockOf(2, 5), Knobs: [][]int{}}, gearsOf(0, 5, nil), gearsOf(0, 5, []int{1}),
		gearsOf(2, 5, nil), gearsOf(2, 5, []int{1}), gearsOf(2, 5, []int{1, 1, 1}), gearsOf(2, 5, []int{1, 1}, []int{1}),
		gearsOf(2, 5, []int{1, 1, 0}, []int{1, 2}), gearsOf(2, 5, []int{1, 5}), gearsOf(2, 5, []int{5, 1}),
		gearsOf(2, 5, []int{-1, 0}), gearsOf(2, 5, []int{0, -1}), gearsOf(2, 5, []int{1, 1}, []int{1, 5}),
		gearsOf(2, 5, []int{math.MaxInt, 0}), gearsOf(2, 5, []int{0, math.MinInt}),
		gearsOf(2, 5, slices.Repeat([][]int{{1, 1}}, impl.MaxKnobs+1)...),
		gearsOf(2, 5, slices.Repeat([][]int{{1, 1}}, 100000)...),
		gearsOf(4, 6, []int{1, 1, 1, 1}), gearsOf(5, 4, []int{1, 1, 1, 1, 1}), gearsOf(6, 10, []int{1, 1, 1, 1, 1, 1}),
	}
	for _, l := range badLocks() {
		all = append(all, impl.Gears{Lock: l}, gearsOf(l.Wheels, l.Digits, []int{0}), gearsOf(l.Wheels, l.Digits, []int{0, 0, 0}))
	}
	return all
}

// callWithGears calls all functions that require gears, and expects each one to fail.
func callWithGears(t *testing.T, g impl.Gears, code string) {
	t.Helper()
	what := fmt.Sprintf("%.80s %.20q", fmt.Sprint(g), code)
	callWithCode(t, g, code, code)
	for _, knob := range []int{-1, 0, 1} {
		n, ok := impl.PeriodOfKnob(g, knob)
		fails(t, "PeriodOfKnob "+what, n, ok)
		left, ok := impl.DropKnob(g, knob)
		failsGears(t, "DropKnob "+what, left, ok)
	}
	n, ok := impl.CountClasses(g)
	fails(t, "CountClasses "+what, n, ok)
	needless, ok := impl.NeedlessKnobs(g)
	failsList(t, "NeedlessKnobs "+what, needless, ok)
	for _, knob := range [][]int{nil, {0}, {0, 0}, {1, 1, 1}, {1, 1, 1, 1}} {
		more, ok := impl.AddKnob(g, knob)
		failsGears(t, "AddKnob "+what, more, ok)
	}
	text, ok := impl.GearsText(g)
	fails(t, "GearsText "+what, text, ok)
}

// callWithCode calls all functions that require a code of gears, the code in each place beside another one.
func callWithCode(t *testing.T, g impl.Gears, code string, good string) {
	t.Helper()
	what := fmt.Sprintf("%.80s %.20q", fmt.Sprint(g), code)
	text, ok := impl.TurnKnob(g, code, 0, 1)
	fails(t, "TurnKnob "+what, text, ok)
	for _, times := range [][]int{nil, {0}, {1, 1}} {
		text, ok = impl.KnobsAfter(g, code, times)
		fails(t, "KnobsAfter "+what, text, ok)
	}
	n, ok := impl.CountKnobbed(g, code)
	fails(t, "CountKnobbed "+what, n, ok)
	text, ok = impl.FirstOfClass(g, code)
	fails(t, "FirstOfClass "+what, text, ok)
	text, n, ok = impl.FarthestKnobbed(g, code)
	fails(t, "FarthestKnobbed "+what, text, ok)
	fails(t, "the most turns "+what, n, ok)
	for _, pair := range [][2]string{{code, code}, {code, good}, {good, code}} {
		n, ok = impl.FewestKnobs(g, pair[0], pair[1])
		fails(t, "FewestKnobs "+what, n, ok)
		turns, ok := impl.FirstKnobs(g, pair[0], pair[1])
		failsList(t, "FirstKnobs "+what, turns, ok)
		times, ok := impl.TimesFor(g, pair[0], pair[1])
		failsList(t, "TimesFor "+what, times, ok)
	}
}

func TestPromise11BadGears(t *testing.T) {
	for _, g := range badGears() {
		if impl.AreGears(g) {
			t.Errorf("%.80s should be no gears", fmt.Sprint(g))
		}
		for _, code := range []string{"", "0", "00", "000", "0000"} {
			callWithGears(t, g, code)
		}
	}
	for _, l := range badLocks() {
		g, ok := impl.SingleGears(l)
		failsGears(t, fmt.Sprint("SingleGears ", l), g, ok)
	}
}

func TestPromise11BadCodesOfGears(t *testing.T) {
	g := gearsOf(3, 5, []int{1, 1, 0}, []int{0, 1, 1})
	for _, code := range badCodes() {
		callWithCode(t, g, code, "000")
	}
}

func TestPromise11BadKnobs(t *testing.T) {
	g := gearsOf(2, 5, []int{1, 1}, []int{1, 2})
	for _, knob := range []int{-1, 2, 5, math.MaxInt, math.MinInt} {
		what := fmt.Sprint(knob)
		code, ok := impl.TurnKnob(g, "00", knob, 1)
		fails(t, "TurnKnob "+what, code, ok)
		n, ok := impl.PeriodOfKnob(g, knob)
		fails(t, "PeriodOfKnob "+what, n, ok)
		left, ok := impl.DropKnob(g, knob)
		failsGears(t, "DropKnob "+what, left, ok)
	}
	for _, knob := range [][]int{
		nil, {}, {1}, {1, 1, 1}, {1, 5}, {5, 1}, {-1, 1}, {1, -1}, {math.MaxInt, 1}, {1, math.MinInt}, make([]int, 100000),
	} {
		more, ok := impl.AddKnob(g, knob)
		failsGears(t, fmt.Sprintf("AddKnob %.20s", fmt.Sprint(knob)), more, ok)
	}
}

func TestPromise11BadTimes(t *testing.T) {
	g := gearsOf(2, 5, []int{1, 1}, []int{1, 2})
	for _, times := range []int{1001, -1001, math.MaxInt, math.MinInt, math.MinInt + 1} {
		code, ok := impl.TurnKnob(g, "00", 0, times)
		fails(t, fmt.Sprint("TurnKnob ", times), code, ok)
		code, ok = impl.KnobsAfter(g, "00", []int{0, times})
		fails(t, fmt.Sprint("KnobsAfter ", times), code, ok)
	}
	for _, times := range [][]int{nil, {}, {1}, {1, 1, 1}, make([]int, 100000)} {
		code, ok := impl.KnobsAfter(g, "00", times)
		fails(t, fmt.Sprintf("KnobsAfter %.20s", fmt.Sprint(times)), code, ok)
	}
}

func TestPromise11BadTextsOfGears(t *testing.T) {
	bad := []string{
		"", ":", "x", "x:", "2x5", "2x5:", "2x5::11", "2x5:11:", ":2x5:11", "2x5:1", "2x5:111", "2x5:15", "2x5:51", "2x5:1a",
		"2x5:-1", "2x5:+1", "2x5:1 ", "2x5: 1", "2x5:11 :12", " 2x5:11", "2x5 :11", "2 x5:11", "2x5:11\n", "2x5:11:12\n",
		"02x5:11", "2x05:11", "+2x5:11", "2x+5:11", "-2x5:11", "2x-5:11", "2x5x:11", "2x5x5:11", "2X5:11", "2*5:11", "25:11",
		"2_x5:11", "0x2x5:11", "2x1_0:11", "2x:11", "x5:11", "0x5:", "0x5:0", "2x1:00", "2x0:00", "2x11:00", "7x2:0000000",
		"4x6:0000", "5x4:00000", "6x10:000000", "2x5:11:11:11:11:11:11", "2x5,11", "2x5:11,12", "2x5:1٣", "2x5:\xff\xff",
		"2x5:\x00\x00", "2x5:/0", "3x10:00:", "3x10:0:0", "99999999999999999999x5:11", "2x99999999999999999999:11",
		"18446744073709551618x5:11", strings.Repeat("2x5:11", 20000), "2x5" + strings.Repeat(":11", 100000),
		"2x5:" + strings.Repeat("1", 100000), strings.Repeat(":", 100000), strings.Repeat("0", 100000) + "2x5:11",
	}
	for _, s := range bad {
		g, ok := impl.ParseGears(s)
		failsGears(t, fmt.Sprintf("ParseGears %.20q", s), g, ok)
	}
}

// roomyGears returns gears whose lists have room behind them, and all that is in the room.
func roomyGears() (impl.Gears, []int, [][]int) {
	numbers := []int{1, 1, 7, 1, 2, 8, 0, 3, 9}
	knobs := [][]int{numbers[0:2], numbers[3:5], numbers[6:8], {4, 4}}
	return impl.Gears{Lock: lockOf(2, 5), Knobs: knobs[:3]}, numbers, knobs
}

func TestPromise11GearsAreLeftAlone(t *testing.T) {
	g, numbers, knobs := roomyGears()
	numbersBefore := slices.Clone(numbers)
	knobsBefore := copyOfGears(impl.Gears{Knobs: knobs})
	timesRoom := []int{3, -4, 5, 6}
	times := timesRoom[:3]
	first, ok := impl.KnobsAfter(g, "00", times)
	code := "00"
	for knob, often := range times {
		code = knobbed(g, code, knob, often)
	}
	same(t, "KnobsAfter", first, ok, code)
	impl.AreGears(g)
	impl.TurnKnob(g, "00", 2, -7)
	impl.FirstKnobs(g, "00", "43")
	impl.CountClasses(g)
	impl.TimesFor(g, "00", "43")
	impl.NeedlessKnobs(g)
	impl.FarthestKnobbed(g, "00")
	impl.GearsText(g)
	for knob := range g.Knobs {
		left, _ := impl.DropKnob(g, knob)
		spoil(left)
	}
	more, ok := impl.AddKnob(g, numbers[3:5])
	sameGears(t, "AddKnob", more, ok, gearsOf(2, 5, []int{1, 1}, []int{1, 2}, []int{0, 3}, []int{1, 2}))
	spoil(more)
	if !slices.Equal(numbers, numbersBefore) || !equalGears(impl.Gears{Knobs: knobs}, knobsBefore) || timesRoom[3] != 6 {
		t.Errorf("the arguments became %v, %v and %v", numbers, knobs, timesRoom)
	}
	again, ok := impl.KnobsAfter(g, "00", times)
	same(t, "the same call again", again, ok, first)
}

// spoil changes all memory that a result has.
func spoil(g impl.Gears) {
	for k, knob := range g.Knobs {
		knob = knob[:cap(knob)]
		for i := range knob {
			knob[i] = 99
		}
		g.Knobs[k] = nil
	}
}

func TestPromise11NoTwoKnobsShareMemory(t *testing.T) {
	made := func() []impl.Gears {
		single, _ := impl.SingleGears(lockOf(3, 4))
		parsedGears, _ := impl.ParseGears("3x4:123:123:123")
		shared := []int{1, 2, 3}
		added, _ := impl.AddKnob(gearsOf(3, 4, shared, shared), shared)
		dropped, _ := impl.DropKnob(gearsOf(3, 4, shared, shared, shared, shared), 1)
		return []impl.Gears{single, parsedGears, added, dropped}
	}
	for i, g := range made() {
		before := copyOfGears(g)
		if len(g.Knobs) != 3 {
			t.Fatalf("the gears %d: got %v", i, g)
		}
		for k := range g.Knobs {
			_ = append(g.Knobs[k], 99)
			g.Knobs[k][0] = 99
			for other := range g.Knobs {
				if other != k && !slices.Equal(g.Knobs[other], before.Knobs[other]) {
					t.Errorf("the knobs %d and %d of the gears %d share memory", k, other, i)
				}
			}
			g.Knobs[k][0] = before.Knobs[k][0]
		}
		spoil(g)
		sameGears(t, "made again", made()[i], true, before)
	}
}

func TestPromise11ListsOfKnobsAreNew(t *testing.T) {
	g := gearsOf(2, 5, []int{1, 1}, []int{1, 2}, []int{2, 2})
	for range 2 {
		turns, ok := impl.FirstKnobs(g, "00", "01")
		sameList(t, "FirstKnobs", turns, ok, []impl.Turn{turnBy(0, -1), turnBy(1, 1)})
		clear(turns)
		times, ok := impl.TimesFor(g, "00", "01")
		sameList(t, "TimesFor", times, ok, []int{0, 1, 2})
		clear(times)
		needless, ok := impl.NeedlessKnobs(g)
		sameList(t, "NeedlessKnobs", needless, ok, []int{0, 2})
		for i := range needless {
			needless[i] = 99
		}
	}
}
