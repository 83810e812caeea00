package tests

import (
	"slices"
	"testing"

	"loop.example/g01304/impl"
)

// The helpers work out by themselves what chapter 1 tells, slowly, so that they share no mistake with the program.

func lockOf(wheels int, digits int) impl.Lock {
	return impl.Lock{Wheels: wheels, Digits: digits}
}

func turnBy(wheel int, by int) impl.Turn {
	return impl.Turn{Wheel: wheel, By: by}
}

func smallLocks() []impl.Lock {
	return []impl.Lock{
		lockOf(1, 2), lockOf(1, 3), lockOf(1, 4), lockOf(1, 5), lockOf(1, 9), lockOf(1, 10),
		lockOf(2, 2), lockOf(2, 3), lockOf(2, 4), lockOf(2, 5),
		lockOf(3, 2), lockOf(3, 3), lockOf(3, 4), lockOf(4, 2), lockOf(6, 2),
	}
}

func codesOf(l impl.Lock) []string {
	codes := []string{""}
	for range l.Wheels {
		var longer []string
		for _, code := range codes {
			for digit := range l.Digits {
				longer = append(longer, code+string(rune('0'+digit)))
			}
		}
		codes = longer
	}
	return codes
}

func turnsOf(l impl.Lock) []impl.Turn {
	var turns []impl.Turn
	for wheel := range l.Wheels {
		turns = append(turns, impl.Turn{Wheel: wheel, By: 1}, impl.Turn{Wheel: wheel, By: -1})
	}
	return turns
}

func turned(l impl.Lock, code string, t impl.Turn) string {
	digits := "0123456789"[:l.Digits]
	around := digits + digits + digits
	old := int(code[t.Wheel] - '0')
	return code[:t.Wheel] + around[l.Digits+old+t.By:][:1] + code[t.Wheel+1:]
}

// A route is what a search by breadth finds out about the fewest turns to a code.
type route struct {
	length int
	ways   int
}

func routesFrom(l impl.Lock, from string) map[string]route {
	routes := map[string]route{from: {0, 1}}
	for queue := []string{from}; len(queue) > 0; queue = queue[1:] {
		here := routes[queue[0]]
		for _, t := range turnsOf(l) {
			code := turned(l, queue[0], t)
			r, known := routes[code]
			switch {
			case !known:
				routes[code] = route{here.length + 1, here.ways}
				queue = append(queue, code)
			case r.length == here.length+1:
				routes[code] = route{r.length, r.ways + here.ways}
			}
		}
	}
	return routes
}

func firstRoute(l impl.Lock, from string, routesTo map[string]route) []impl.Turn {
	var turns []impl.Turn
	for code := from; routesTo[code].length > 0; {
		for _, t := range turnsOf(l) {
			if next := turned(l, code, t); routesTo[next].length < routesTo[code].length {
				turns, code = append(turns, t), next
				break
			}
		}
	}
	return turns
}

func codesWith(l impl.Lock, routes map[string]route, length int) []string {
	var codes []string
	for _, code := range codesOf(l) {
		if routes[code].length == length {
			codes = append(codes, code)
		}
	}
	return codes
}

func parsed(t *testing.T, s string) []impl.Turn {
	t.Helper()
	turns, ok := impl.ParseTurns(s)
	if !ok {
		t.Fatalf("%q should be a text of turns", s)
	}
	return turns
}

func same[V comparable](t *testing.T, what string, got V, ok bool, want V) {
	t.Helper()
	if !ok || got != want {
		t.Errorf("%s: got %v, %v, want %v", what, got, ok, want)
	}
}

func sameList[V comparable](t *testing.T, what string, got []V, ok bool, want []V) {
	t.Helper()
	if !ok || !slices.Equal(got, want) {
		t.Errorf("%s: got %v, %v, want %v", what, got, ok, want)
	}
}

func fails[V comparable](t *testing.T, what string, got V, ok bool) {
	t.Helper()
	var zero V
	if ok || got != zero {
		t.Errorf("%s: got %v, %v, should fail with a zero value", what, got, ok)
	}
}

func failsList[V any](t *testing.T, what string, got []V, ok bool) {
	t.Helper()
	if ok || len(got) != 0 {
		t.Errorf("%s: got %v, %v, should fail with an empty list", what, got, ok)
	}
}
