package tests

import (
	"maps"
	"slices"
	"testing"

	"loop.example/g01304/impl"
)

// The helpers count lists of turns of each length, and spread from code to code until nothing is added: they keep no order of a search.

type deadCase struct {
	lock impl.Lock
	dead []string
}

// deadCases returns locks with few, many, and all but few dead codes, scattered and in rows.
func deadCases(locks []impl.Lock) []deadCase {
	var cases []deadCase
	for _, l := range locks {
		codes := codesOf(l)
		cases = append(cases, deadCase{l, nil}, deadCase{l, codes[:1]}, deadCase{l, codes[len(codes)-1:]})
		for _, rule := range []struct{ step, kept, around int }{{5, 2, 3}, {7, 3, 5}, {11, 5, 8}, {3, 4, 7}, {13, 1, 3}, {29, 1, 6}, {17, 8, 10}} {
			var dead []string
			for i, code := range codes {
				if i*rule.step%(len(codes)+3)%rule.around >= rule.kept && len(dead) < impl.MaxDead {
					dead = append(dead, code)
				}
			}
			cases = append(cases, deadCase{l, dead})
		}
	}
	return cases
}

func liveOf(l impl.Lock, dead []string) []string {
	var live []string
	for _, code := range codesOf(l) {
		if !slices.Contains(dead, code) {
			live = append(live, code)
		}
	}
	return live
}

func neighboursOf(l impl.Lock, live []string) map[string][]string {
	neighbours := map[string][]string{}
	for _, code := range live {
		for _, t := range turnsOf(l) {
			if next := turned(l, code, t); slices.Contains(live, next) {
				neighbours[code] = append(neighbours[code], next)
			}
		}
	}
	return neighbours
}

// waysTo tells for 0, 1, 2, .. turns how many ways of just so many turns lead from each live code to one of them.
func waysTo(live []string, neighbours map[string][]string, to string) []map[string]int {
	ways := []map[string]int{{to: 1}}
	for len(ways) <= len(live) {
		last, more := ways[len(ways)-1], map[string]int{}
		for _, code := range live {
			for _, next := range neighbours[code] {
				more[code] = min(more[code]+last[next], 1<<50)
			}
		}
		ways = append(ways, more)
	}
	return ways
}

// fewestIn returns the fewest number of turns from a code that some way has, or -1.
func fewestIn(ways []map[string]int, from string) int {
	return slices.IndexFunc(ways, func(w map[string]int) bool { return w[from] > 0 })
}

func firstIn(l impl.Lock, ways []map[string]int, from string) []impl.Turn {
	var turns []impl.Turn
	for left := fewestIn(ways, from) - 1; left >= 0; left-- {
		for _, t := range turnsOf(l) {
			if next := turned(l, from, t); ways[left][next] > 0 {
				turns, from = append(turns, t), next
				break
			}
		}
	}
	return turns
}

// partWith returns the live codes that are reached from one of them, in order.
func partWith(live []string, neighbours map[string][]string, code string) []string {
	reached := map[string]bool{code: true}
	for before := 0; before < len(reached); {
		before = len(reached)
		for _, other := range live {
			if slices.ContainsFunc(neighbours[other], func(n string) bool { return reached[n] }) {
				reached[other] = true
			}
		}
	}
	return slices.Sorted(maps.Keys(reached))
}

// partsWith returns the parts of the live codes, each one with its codes in order.
func partsWith(l impl.Lock, live []string) [][]string {
	neighbours := neighboursOf(l, live)
	var parts [][]string
	for _, code := range live {
		if part := partWith(live, neighbours, code); part[0] == code {
			parts = append(parts, part)
		}
	}
	return parts
}

// deadWith returns the codes with a dead code more, in order.
func deadWith(dead []string, code string) []string {
	more := append(slices.Clone(dead), code)
	slices.Sort(more)
	return more
}

// failsWithCodes calls all functions of chapter 3 that require a live code, and expects each one to fail.
func failsWithCodes(t *testing.T, what string, l impl.Lock, dead []string, code string, other string) {
	t.Helper()
	for _, pair := range [][2]string{{code, code}, {code, other}, {other, code}} {
		failsWithPair(t, what, l, dead, pair[0], pair[1])
	}
	n, ok := impl.CountReached(l, dead, code)
	fails(t, "CountReached "+what, n, ok)
	n, ok = impl.CountCutOff(l, dead, code)
	fails(t, "CountCutOff "+what, n, ok)
	text, ok := impl.FirstCutOff(l, dead, code)
	fails(t, "FirstCutOff "+what, text, ok)
	text, n, ok = impl.FarthestAround(l, dead, code)
	fails(t, "FarthestAround "+what, text, ok)
	fails(t, "the most turns "+what, n, ok)
	is, ok := impl.IsCutting(l, dead, code)
	fails(t, "IsCutting "+what, is, ok)
	next, ok := impl.LiveNext(l, dead, code)
	failsList(t, "LiveNext "+what, next, ok)
	for _, turns := range [][]impl.Turn{nil, {turnBy(0, 1)}, {turnBy(0, -1), turnBy(0, 1)}} {
		failsWithTurns(t, what, l, dead, code, turns)
	}
}

func failsWithPair(t *testing.T, what string, l impl.Lock, dead []string, from string, to string) {
	t.Helper()
	n, ok := impl.FewestAround(l, dead, from, to)
	fails(t, "FewestAround "+what, n, ok)
	turns, ok := impl.FirstAround(l, dead, from, to)
	failsList(t, "FirstAround "+what, turns, ok)
	n, ok = impl.CountAround(l, dead, from, to)
	fails(t, "CountAround "+what, n, ok)
	n, ok = impl.DetourOf(l, dead, from, to)
	fails(t, "DetourOf "+what, n, ok)
	needed, ok := impl.NeededCodes(l, dead, from, to)
	failsList(t, "NeededCodes "+what, needed, ok)
}

func failsWithTurns(t *testing.T, what string, l impl.Lock, dead []string, from string, turns []impl.Turn) {
	t.Helper()
	i, ok := impl.TurnThatMeets(l, dead, from, turns)
	fails(t, "TurnThatMeets "+what, i, ok)
	code, ok := impl.WalkAround(l, dead, from, turns)
	fails(t, "WalkAround "+what, code, ok)
}
