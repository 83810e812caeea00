package tests

import (
	"fmt"
	"slices"
	"strings"
	"testing"

	"loop.example/g01304/impl"
)

// Promise 2: fewest turns of knobs are turns that lead there, and classes have as many codes each.

func TestPromise2Example(t *testing.T) {
	g := gearsWith(t, "2x5:11:12")
	sameGears(t, "ParseGears", g, true, gearsOf(2, 5, []int{1, 1}, []int{1, 2}))
	code, ok := impl.TurnKnob(g, "00", 0, 1)
	same(t, "the knob 0", code, ok, "11")
	code, ok = impl.TurnKnob(g, "00", 1, 1)
	same(t, "the knob 1", code, ok, "12")
	n, ok := impl.FewestKnobs(g, "00", "01")
	same(t, "FewestKnobs", n, ok, 2)
	turns, ok := impl.FirstKnobs(g, "00", "01")
	sameList(t, "FirstKnobs", turns, ok, []impl.Turn{turnBy(0, -1), turnBy(1, 1)})
	n, ok = impl.CountKnobbed(g, "00")
	same(t, "CountKnobbed", n, ok, 25)
	n, ok = impl.CountClasses(g)
	same(t, "CountClasses", n, ok, 1)
	halves := gearsWith(t, "2x4:11:13")
	n, ok = impl.CountKnobbed(halves, "00")
	same(t, "CountKnobbed", n, ok, 8)
	n, ok = impl.CountClasses(halves)
	same(t, "CountClasses", n, ok, 2)
	n, ok = impl.PeriodOfKnob(gearsWith(t, "2x4:22"), 0)
	same(t, "PeriodOfKnob", n, ok, 2)
}

func TestPromise2Limits(t *testing.T) {
	same(t, "MaxKnobs", impl.MaxKnobs, true, 5)
	same(t, "MaxGeared", impl.MaxGeared, true, 1000)
	knobs := slices.Repeat([][]int{{1, 0, 9}}, impl.MaxKnobs)
	if g := gearsOf(3, 10, knobs...); !impl.AreGears(g) {
		t.Errorf("%v should be gears", g)
	}
	for _, l := range []impl.Lock{lockOf(6, 3), lockOf(5, 3), lockOf(4, 5), lockOf(3, 10), lockOf(6, 2), lockOf(1, 10)} {
		if !impl.AreGears(impl.Gears{Lock: l, Knobs: [][]int{make([]int, l.Wheels)}}) {
			t.Errorf("%v should do for gears", l)
		}
	}
}

func TestPromise2FewestTurnsLeadThere(t *testing.T) {
	for _, g := range smallGears() {
		for _, from := range codesOf(g.Lock) {
			routes := knobRoutes(g, from)
			for _, to := range codesOf(g.Lock) {
				what := fmt.Sprint(g, from, to)
				fewest, ok := impl.FewestKnobs(g, from, to)
				turns, fine := impl.FirstKnobs(g, from, to)
				times, finer := impl.TimesFor(g, from, to)
				r, reached := routes[to]
				if !reached {
					fails(t, "FewestKnobs "+what, fewest, ok)
					failsList(t, "FirstKnobs "+what, turns, fine)
					failsList(t, "TimesFor "+what, times, finer)
					continue
				}
				same(t, "FewestKnobs "+what, fewest, ok, len(r.turns))
				sameList(t, "FirstKnobs "+what, turns, fine, r.turns)
				sameList(t, "TimesFor "+what, times, finer, r.times)
				code := from
				for _, turn := range turns {
					code, _ = impl.TurnKnob(g, code, turn.Wheel, turn.By)
				}
				same(t, "behind FirstKnobs "+what, code, fine, to)
				code, ok = impl.KnobsAfter(g, from, times)
				same(t, "behind TimesFor "+what, code, ok, to)
			}
		}
	}
}

func TestPromise2ClassesHaveAsManyCodesEach(t *testing.T) {
	for _, g := range smallGears() {
		classes := map[string]int{}
		for _, code := range codesOf(g.Lock) {
			what := fmt.Sprint(g, code)
			routes := knobRoutes(g, code)
			first, farthest := code, code
			for _, other := range codesOf(g.Lock) {
				r, reached := routes[other]
				if reached && other < first {
					first = other
				}
				most := len(routes[farthest].turns)
				if reached && (len(r.turns) > most || len(r.turns) == most && other < farthest) {
					farthest = other
				}
			}
			n, ok := impl.CountKnobbed(g, code)
			same(t, "CountKnobbed "+what, n, ok, len(routes))
			got, ok := impl.FirstOfClass(g, code)
			same(t, "FirstOfClass "+what, got, ok, first)
			got, most, ok := impl.FarthestKnobbed(g, code)
			same(t, "FarthestKnobbed "+what, got, ok, farthest)
			same(t, "the most turns "+what, most, ok, len(routes[farthest].turns))
			classes[first]++
		}
		n, ok := impl.CountClasses(g)
		same(t, fmt.Sprint("CountClasses ", g), n, ok, len(classes))
		for first, codes := range classes {
			same(t, fmt.Sprint("the class of ", first, g), codes, ok, len(codesOf(g.Lock))/n)
		}
	}
}

func TestPromise2PeriodsAndNeedlessKnobs(t *testing.T) {
	for _, g := range smallGears() {
		zeros := strings.Repeat("0", g.Lock.Wheels)
		reached := len(knobRoutes(g, zeros))
		var needless []int
		for knob := range g.Knobs {
			period := 1
			for knobbed(g, zeros, knob, period) != zeros {
				period++
			}
			n, ok := impl.PeriodOfKnob(g, knob)
			same(t, fmt.Sprint("PeriodOfKnob ", g, knob), n, ok, period)
			if len(g.Knobs) > 1 && len(knobRoutes(without(g, knob), zeros)) == reached {
				needless = append(needless, knob)
			}
		}
		got, ok := impl.NeedlessKnobs(g)
		sameList(t, fmt.Sprint("NeedlessKnobs ", g), got, ok, needless)
	}
}

func TestPromise2TurnsOfKnobs(t *testing.T) {
	for _, g := range smallGears() {
		codes := codesOf(g.Lock)
		code := codes[len(codes)*2/3]
		times := make([]int, len(g.Knobs))
		behind := code
		for knob := range g.Knobs {
			for _, often := range []int{0, 1, -1, 2, -3, 17, -24} {
				got, ok := impl.TurnKnob(g, code, knob, often)
				same(t, fmt.Sprint("TurnKnob ", g, code, knob, often), got, ok, knobbed(g, code, knob, often))
			}
			times[knob] = 7*knob - 11
			behind = knobbed(g, behind, knob, times[knob])
		}
		got, ok := impl.KnobsAfter(g, code, times)
		same(t, fmt.Sprint("KnobsAfter ", g, code, times), got, ok, behind)
	}
}

func TestPromise2TimesUpToTheLimit(t *testing.T) {
	g := gearsOf(2, 7, []int{3, 6}, []int{0, 5}) // 1000 is 6 around 7
	code, ok := impl.TurnKnob(g, "52", 0, 1000)
	same(t, "TurnKnob 1000", code, ok, "23")
	code, ok = impl.TurnKnob(g, "52", 0, -1000)
	same(t, "TurnKnob -1000", code, ok, "11")
	code, ok = impl.KnobsAfter(g, "52", []int{1000, -1000})
	same(t, "KnobsAfter", code, ok, "21")
	for _, often := range []int{1001, -1001} {
		code, ok = impl.TurnKnob(g, "52", 0, often)
		fails(t, fmt.Sprint("TurnKnob ", often), code, ok)
		for _, times := range [][]int{{often, 0}, {0, often}, {-1, often}} {
			code, ok = impl.KnobsAfter(g, "52", times)
			fails(t, fmt.Sprint("KnobsAfter ", times), code, ok)
		}
	}
}

func TestPromise2OneKnob(t *testing.T) {
	g := gearsOf(3, 10, []int{1, 0, 9})
	n, ok := impl.CountKnobbed(g, "470")
	same(t, "CountKnobbed", n, ok, 10)
	n, ok = impl.CountClasses(g)
	same(t, "CountClasses", n, ok, 100)
	code, ok := impl.FirstOfClass(g, "470")
	same(t, "FirstOfClass", code, ok, "074")
	code, n, ok = impl.FarthestKnobbed(g, "470")
	same(t, "FarthestKnobbed", code, ok, "975")
	same(t, "the most turns", n, ok, 5)
	turns, ok := impl.FirstKnobs(g, "470", "975")
	sameList(t, "FirstKnobs", turns, ok, slices.Repeat([]impl.Turn{turnBy(0, 1)}, 5))
	turns, ok = impl.FirstKnobs(g, "470", "173")
	sameList(t, "FirstKnobs", turns, ok, slices.Repeat([]impl.Turn{turnBy(0, -1)}, 3))
	times, ok := impl.TimesFor(g, "470", "173")
	sameList(t, "TimesFor", times, ok, []int{7})
	n, ok = impl.FewestKnobs(g, "470", "471")
	fails(t, "FewestKnobs", n, ok)
	needless, ok := impl.NeedlessKnobs(g)
	sameList(t, "NeedlessKnobs", needless, ok, nil)
	left, ok := impl.DropKnob(g, 0)
	failsGears(t, "DropKnob", left, ok)
}

func TestPromise2KnobThatDoesNothing(t *testing.T) {
	g := gearsOf(2, 3, []int{0, 0})
	n, ok := impl.PeriodOfKnob(g, 0)
	same(t, "PeriodOfKnob", n, ok, 1)
	n, ok = impl.CountKnobbed(g, "12")
	same(t, "CountKnobbed", n, ok, 1)
	n, ok = impl.CountClasses(g)
	same(t, "CountClasses", n, ok, 9)
	code, ok := impl.FirstOfClass(g, "12")
	same(t, "FirstOfClass", code, ok, "12")
	code, n, ok = impl.FarthestKnobbed(g, "12")
	same(t, "FarthestKnobbed", code, ok, "12")
	same(t, "the most turns", n, ok, 0)
	needless, ok := impl.NeedlessKnobs(g)
	sameList(t, "NeedlessKnobs of it alone", needless, ok, nil)
	needless, ok = impl.NeedlessKnobs(gearsOf(2, 3, []int{0, 0}, []int{0, 0}))
	sameList(t, "NeedlessKnobs of it twice", needless, ok, []int{0, 1})
}

func TestPromise2NothingToTurn(t *testing.T) {
	g := gearsOf(2, 5, []int{1, 1}, []int{1, 2})
	n, ok := impl.FewestKnobs(g, "34", "34")
	same(t, "FewestKnobs", n, ok, 0)
	turns, ok := impl.FirstKnobs(g, "34", "34")
	sameList(t, "FirstKnobs", turns, ok, nil)
	times, ok := impl.TimesFor(g, "34", "34")
	sameList(t, "TimesFor", times, ok, []int{0, 0})
	code, ok := impl.TurnKnob(g, "34", 1, 0)
	same(t, "TurnKnob", code, ok, "34")
}

func TestPromise2FirstKnobsGoForwardWhereBackIsAsShort(t *testing.T) {
	turns, ok := impl.FirstKnobs(gearsOf(1, 2, []int{1}), "1", "0")
	sameList(t, "FirstKnobs", turns, ok, []impl.Turn{turnBy(0, 1)})
	// The knob 1 alone does what the knob 0 does twice.
	turns, ok = impl.FirstKnobs(gearsOf(1, 8, []int{1}, []int{2}), "0", "4")
	sameList(t, "FirstKnobs", turns, ok, []impl.Turn{turnBy(1, 1), turnBy(1, 1)})
	turns, ok = impl.FirstKnobs(gearsOf(1, 8, []int{1}, []int{2}), "0", "3")
	sameList(t, "FirstKnobs", turns, ok, []impl.Turn{turnBy(0, 1), turnBy(1, 1)})
	times, ok := impl.TimesFor(gearsOf(1, 8, []int{1}, []int{2}), "0", "7")
	sameList(t, "TimesFor", times, ok, []int{1, 3})
}

func TestPromise2SingleGearsAreThoseOfWheels(t *testing.T) {
	for _, l := range []impl.Lock{lockOf(1, 2), lockOf(2, 4), lockOf(3, 5), lockOf(4, 3), lockOf(5, 3)} {
		g, ok := impl.SingleGears(l)
		want := impl.Gears{Lock: l}
		for wheel := range l.Wheels {
			knob := make([]int, l.Wheels)
			knob[wheel] = 1
			want.Knobs = append(want.Knobs, knob)
		}
		sameGears(t, "SingleGears", g, ok, want)
		codes := codesOf(l)
		from := codes[len(codes)/2]
		routes := routesFrom(l, from)
		for _, to := range codes {
			turns, ok := impl.FirstKnobs(g, from, to)
			back := firstRoute(l, from, routesFrom(l, to))
			sameList(t, fmt.Sprint("FirstKnobs ", l, from, to), turns, ok, back)
			same(t, "as few", len(turns), ok, routes[to].length)
		}
		needless, ok := impl.NeedlessKnobs(g)
		sameList(t, "NeedlessKnobs", needless, ok, nil)
	}
	for _, l := range []impl.Lock{lockOf(6, 2), lockOf(6, 3), lockOf(5, 4), lockOf(4, 6), lockOf(4, 10)} {
		g, ok := impl.SingleGears(l)
		failsGears(t, fmt.Sprint("SingleGears ", l), g, ok)
	}
}

func TestPromise2GreatestGears(t *testing.T) {
	g, ok := impl.SingleGears(lockOf(3, 10))
	g, fine := impl.AddKnob(g, []int{5, 5, 5})
	g, finer := impl.AddKnob(g, []int{0, 0, 5})
	if !ok || !fine || !finer {
		t.Fatal("these should be gears", g)
	}
	n, ok := impl.CountKnobbed(g, "123")
	same(t, "CountKnobbed", n, ok, 1000)
	needless, ok := impl.NeedlessKnobs(g)
	sameList(t, "NeedlessKnobs", needless, ok, []int{3, 4})
	turns, ok := impl.FirstKnobs(g, "000", "456")
	sameList(t, "FirstKnobs", turns, ok, []impl.Turn{turnBy(0, -1), turnBy(2, 1), turnBy(3, 1)})
	times, ok := impl.TimesFor(g, "000", "456")
	sameList(t, "TimesFor", times, ok, []int{4, 5, 1, 0, 1})
	// Three digits alone take 5, 5 and 5 turns; the knob 3 halves what two take, and the knob 4 what the last one takes.
	code, n, ok := impl.FarthestKnobbed(g, "000")
	same(t, "FarthestKnobbed", code, ok, "053")
	same(t, "the most turns", n, ok, 8)
}

func TestPromise2DropAndAddKnobs(t *testing.T) {
	g := gearsOf(2, 5, []int{1, 1}, []int{1, 2}, []int{0, 4})
	for knob := range g.Knobs {
		left, ok := impl.DropKnob(g, knob)
		sameGears(t, fmt.Sprint("DropKnob ", knob), left, ok, without(g, knob))
	}
	more, ok := impl.AddKnob(g, []int{3, 0})
	sameGears(t, "AddKnob", more, ok, gearsOf(2, 5, []int{1, 1}, []int{1, 2}, []int{0, 4}, []int{3, 0}))
	more, ok = impl.AddKnob(more, []int{1, 1})
	same(t, "the most knobs", len(more.Knobs), ok, impl.MaxKnobs)
	tooMany, ok := impl.AddKnob(more, []int{1, 1})
	failsGears(t, "AddKnob", tooMany, ok)
}

func TestPromise2TextsOfGears(t *testing.T) {
	for text, g := range map[string]impl.Gears{
		"1x2:0":                   gearsOf(1, 2, []int{0}),
		"2x4:22":                  gearsOf(2, 4, []int{2, 2}),
		"3x10:909:012":            gearsOf(3, 10, []int{9, 0, 9}, []int{0, 1, 2}),
		"6x3:012012":              gearsOf(6, 3, []int{0, 1, 2, 0, 1, 2}),
		"2x5:11:11:44:00:40":      gearsOf(2, 5, []int{1, 1}, []int{1, 1}, []int{4, 4}, []int{0, 0}, []int{4, 0}),
		"1x10:9:8:7:6:5":          gearsOf(1, 10, []int{9}, []int{8}, []int{7}, []int{6}, []int{5}),
		"4x5:0123:1234:4321:3210": gearsOf(4, 5, []int{0, 1, 2, 3}, []int{1, 2, 3, 4}, []int{4, 3, 2, 1}, []int{3, 2, 1, 0}),
	} {
		got, ok := impl.GearsText(g)
		same(t, "GearsText", got, ok, text)
		back, ok := impl.ParseGears(text)
		sameGears(t, "ParseGears "+text, back, ok, g)
	}
	for _, g := range smallGears() {
		text, ok := impl.GearsText(g)
		back, fine := impl.ParseGears(text)
		sameGears(t, "ParseGears "+text, back, ok && fine, g)
	}
}
