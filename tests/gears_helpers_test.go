package tests

import (
	"slices"
	"testing"

	"loop.example/g01304/impl"
)

// The helpers try out all numbers of turns of all knobs, and search for nothing.

func gearsOf(wheels int, digits int, knobs ...[]int) impl.Gears {
	return impl.Gears{Lock: lockOf(wheels, digits), Knobs: knobs}
}

func smallGears() []impl.Gears {
	return []impl.Gears{
		gearsOf(1, 2, []int{0}), gearsOf(1, 2, []int{1}), gearsOf(1, 2, []int{1}, []int{1}),
		gearsOf(1, 4, []int{2}), gearsOf(1, 4, []int{3}), gearsOf(1, 4, []int{2}, []int{1}),
		gearsOf(1, 6, []int{2}, []int{3}), gearsOf(1, 6, []int{4}, []int{0}, []int{2}),
		gearsOf(1, 10, []int{7}), gearsOf(1, 10, []int{4}, []int{5}), gearsOf(1, 10, []int{5}),
		gearsOf(2, 2, []int{1, 0}, []int{0, 1}, []int{1, 1}), gearsOf(2, 2, []int{1, 1}),
		gearsOf(2, 3, []int{1, 2}, []int{2, 1}, []int{0, 0}), gearsOf(2, 4, []int{1, 1}, []int{1, 3}),
		gearsOf(2, 4, []int{2, 2}), gearsOf(2, 4, []int{3, 1}, []int{0, 2}, []int{1, 2}),
		gearsOf(2, 5, []int{1, 1}, []int{1, 2}), gearsOf(2, 5, []int{1, 2}, []int{2, 4}),
		gearsOf(2, 6, []int{2, 3}, []int{3, 2}), gearsOf(3, 3, []int{1, 2, 0}, []int{0, 1, 1}, []int{1, 1, 1}),
		gearsOf(3, 2, []int{1, 1, 1}, []int{1, 1, 0}, []int{1, 0, 0}, []int{0, 1, 0}, []int{0, 0, 1}),
		gearsOf(4, 2, []int{1, 1, 0, 0}, []int{0, 0, 1, 1}, []int{1, 1, 1, 1}, []int{0, 0, 0, 0}),
	}
}

// knobbed turns a knob so many times, a wheel by one at a time.
func knobbed(g impl.Gears, code string, knob int, times int) string {
	by := 1
	if times < 0 {
		by, times = -1, -times
	}
	for range times {
		for wheel, steps := range g.Knobs[knob] {
			for range steps {
				code = turned(g.Lock, code, turnBy(wheel, by))
			}
		}
	}
	return code
}

// A knobRoute is what trying out everything finds out about a code.
type knobRoute struct {
	turns []impl.Turn
	times []int
}

// knobRoutes tells of each code that is reached the first list of fewest turns, and the first numbers of turns forward.
func knobRoutes(g impl.Gears, from string) map[string]knobRoute {
	routes := map[string]knobRoute{}
	tryTurns(g, from, 0, nil, routes)
	tryTimes(g, from, nil, routes)
	return routes
}

// What few turns do does not hang on their order, so that the first list has them in order, and no knob goes forward and back.
func tryTurns(g impl.Gears, code string, knob int, turns []impl.Turn, routes map[string]knobRoute) {
	if knob == len(g.Knobs) {
		old, known := routes[code]
		if !known || len(turns) < len(old.turns) || len(turns) == len(old.turns) && slices.CompareFunc(turns, old.turns, compareTurns) < 0 {
			routes[code] = knobRoute{turns: slices.Clone(turns), times: old.times}
		}
		return
	}
	for times := 1 - g.Lock.Digits; times < g.Lock.Digits; times++ {
		more := slices.Repeat([]impl.Turn{turnBy(knob, 1)}, max(times, 0))
		if times < 0 {
			more = slices.Repeat([]impl.Turn{turnBy(knob, -1)}, -times)
		}
		tryTurns(g, knobbed(g, code, knob, times), knob+1, slices.Concat(turns, more), routes)
	}
}

func compareTurns(a impl.Turn, b impl.Turn) int {
	if a.Wheel != b.Wheel {
		return a.Wheel - b.Wheel
	}
	return b.By - a.By
}

func tryTimes(g impl.Gears, code string, times []int, routes map[string]knobRoute) {
	if knob := len(times); knob < len(g.Knobs) {
		for often := range g.Lock.Digits {
			tryTimes(g, knobbed(g, code, knob, often), slices.Concat(times, []int{often}), routes)
		}
		return
	}
	if old := routes[code]; old.times == nil {
		routes[code] = knobRoute{turns: old.turns, times: times}
	}
}

func without(g impl.Gears, knob int) impl.Gears {
	left := impl.Gears{Lock: g.Lock}
	for k, steps := range g.Knobs {
		if k != knob {
			left.Knobs = append(left.Knobs, slices.Clone(steps))
		}
	}
	return left
}

func equalGears(a impl.Gears, b impl.Gears) bool {
	return a.Lock == b.Lock && slices.EqualFunc(a.Knobs, b.Knobs, slices.Equal[[]int])
}

func copyOfGears(g impl.Gears) impl.Gears {
	return without(g, -1)
}

func gearsWith(t *testing.T, s string) impl.Gears {
	t.Helper()
	g, ok := impl.ParseGears(s)
	if !ok {
		t.Fatalf("%q should be a text of gears", s)
	}
	return g
}

func sameGears(t *testing.T, what string, got impl.Gears, ok bool, want impl.Gears) {
	t.Helper()
	if !ok || !equalGears(got, want) {
		t.Errorf("%s: got %v, %v, want %v", what, got, ok, want)
	}
}

func failsGears(t *testing.T, what string, got impl.Gears, ok bool) {
	t.Helper()
	if ok || !equalGears(got, impl.Gears{}) {
		t.Errorf("%s: got %v, %v, should fail with zero gears", what, got, ok)
	}
}
