package tests

import (
	"fmt"
	"math"
	"slices"
	"strings"
	"testing"

	"loop.example/g01304/impl"
)

// Promise 11: every function accepts all arguments without panicking and modifies none of them.

// None of these locks is searched.
func badSearched() []impl.Lock {
	return append(badLocks(), lockOf(4, 6), lockOf(4, 10), lockOf(5, 4), lockOf(6, 4), lockOf(6, 10))
}

// None of these lists is one of dead codes of 3 wheels with 5 digits.
func badDead() [][]string {
	codes := codesOf(lockOf(3, 5))
	bad := [][]string{
		{"000", "000"}, {"001", "000"}, {"100", "101", "101", "102"}, {"100", "102", "101"}, {"444", "443"}, {"001", "002", "000"},
		{"000", ""}, {"", "001"}, {"000", "0000", "001"}, {"00", "001"}, {"001", "01"}, {"012", "015"}, {"012", "0120"},
		codes[:impl.MaxDead+1], codes[len(codes)-impl.MaxDead-1:], codes, slices.Repeat(codes, 1000),
		append(slices.Clone(codes[:impl.MaxDead-1]), codes[impl.MaxDead-2]), append(slices.Clone(codes[:impl.MaxDead-1]), "555"),
	}
	for _, code := range badCodes() {
		bad = append(bad, []string{code})
	}
	return bad
}

func failsWithLock(t *testing.T, what string, l impl.Lock, dead []string) {
	t.Helper()
	n, ok := impl.PartsOfLock(l, dead)
	fails(t, "PartsOfLock "+what, n, ok)
}

func TestPromise11LocksThatAreNotSearched(t *testing.T) {
	for _, l := range badSearched() {
		zeros := strings.Repeat("0", max(0, min(l.Wheels, 10)))
		for _, dead := range [][]string{nil, {}, {""}, {"0"}, {zeros}, {"1", "0"}, badCodes()} {
			what := fmt.Sprintf("%v %.40s", l, fmt.Sprint(dead))
			are, ok := impl.AreDead(l, dead)
			fails(t, "AreDead "+what, are, ok)
			failsWithLock(t, what, l, dead)
			for _, code := range []string{"", "0", "1", zeros, strings.ReplaceAll(zeros, "0", "1")} {
				failsWithCodes(t, what, l, dead, code, code)
			}
		}
	}
}

func TestPromise11BadDeadCodes(t *testing.T) {
	l := lockOf(3, 5)
	for _, dead := range badDead() {
		what := fmt.Sprintf("%.60q", fmt.Sprint(dead))
		are, ok := impl.AreDead(l, dead)
		same(t, "AreDead "+what, are, ok, false)
		failsWithLock(t, what, l, dead)
		for _, code := range []string{"000", "233", "444"} {
			failsWithCodes(t, what, l, dead, code, code)
		}
	}
}

func TestPromise11BadCodesInMazes(t *testing.T) {
	for _, dead := range [][]string{nil, {"001", "010", "444"}} {
		for _, code := range badCodes() {
			failsWithCodes(t, fmt.Sprintf("%v %.20q", dead, code), lockOf(3, 5), dead, code, "000")
		}
	}
}

func TestPromise11DeadCodesWhereWaysBeginOrEnd(t *testing.T) {
	dead := []string{"001", "010", "444"}
	for _, code := range dead {
		failsWithCodes(t, code, lockOf(3, 5), dead, code, "000")
	}
}

func TestPromise11BadTurnsInMazes(t *testing.T) {
	l, dead := lockOf(3, 5), []string{"100"}
	for _, turn := range append(badTurns(), turnBy(5, 1), turnBy(5, -1)) {
		what := fmt.Sprint(turn)
		failsWithTurns(t, what, l, dead, "000", []impl.Turn{turn})
		failsWithTurns(t, what+" in front", l, dead, "000", []impl.Turn{turn, turnBy(0, 1)})
		failsWithTurns(t, what+" behind", l, dead, "000", []impl.Turn{turnBy(2, -1), turn})
		// The turn that meets a dead code is not told either, where the turns behind it are none.
		failsWithTurns(t, what+" behind a dead code", l, dead, "000", []impl.Turn{turnBy(0, 1), turn})
	}
}

func TestPromise11TooManyTurnsInMazes(t *testing.T) {
	l, dead := lockOf(3, 5), []string{"100"}
	turns := slices.Repeat([]impl.Turn{turnBy(1, 1)}, impl.MaxTurns)
	code, ok := impl.WalkAround(l, dead, "001", turns)
	same(t, "WalkAround", code, ok, "001")
	i, ok := impl.TurnThatMeets(l, dead, "001", turns)
	fails(t, "TurnThatMeets", i, ok)
	failsWithTurns(t, "one too many", l, dead, "001", append(turns, turnBy(1, 1)))
	turns[impl.MaxTurns-1] = turnBy(0, 1)
	i, ok = impl.TurnThatMeets(l, dead, "010", turns)
	same(t, "TurnThatMeets at the end", i, ok, impl.MaxTurns-1)
	failsWithTurns(t, "one too many behind a dead code", l, dead, "010", append(turns, turnBy(1, 1)))
	failsWithTurns(t, "far too many", l, dead, "001", make([]impl.Turn, 100000))
}

// callAll calls all functions with dead codes and turns, and tells what they return.
func callAll(l impl.Lock, dead []string, from string, to string, turns []impl.Turn) string {
	var told []any
	tell := func(results ...any) { told = append(told, results...) }
	are, ok := impl.AreDead(l, dead)
	tell(are, ok)
	fewest, ok := impl.FewestAround(l, dead, from, to)
	tell(fewest, ok)
	first, ok := impl.FirstAround(l, dead, from, to)
	tell(slices.Clone(first), ok)
	for i := range first[:cap(first)] {
		first[:cap(first)][i] = turnBy(math.MinInt, math.MaxInt)
	}
	ways, ok := impl.CountAround(l, dead, from, to)
	tell(ways, ok)
	detour, ok := impl.DetourOf(l, dead, from, to)
	tell(detour, ok)
	reached, ok := impl.CountReached(l, dead, from)
	tell(reached, ok)
	cutOff, ok := impl.CountCutOff(l, dead, from)
	tell(cutOff, ok)
	code, ok := impl.FirstCutOff(l, dead, from)
	tell(code, ok)
	code, most, ok := impl.FarthestAround(l, dead, from)
	tell(code, most, ok)
	parts, ok := impl.PartsOfLock(l, dead)
	tell(parts, ok)
	needed, ok := impl.NeededCodes(l, dead, from, to)
	tell(slices.Clone(needed), ok)
	spoilTexts(needed)
	i, ok := impl.TurnThatMeets(l, dead, from, turns)
	tell(i, ok)
	code, ok = impl.WalkAround(l, dead, from, turns)
	tell(code, ok)
	is, ok := impl.IsCutting(l, dead, from)
	tell(is, ok)
	next, ok := impl.LiveNext(l, dead, from)
	tell(slices.Clone(next), ok)
	spoilTexts(next)
	return fmt.Sprint(told...)
}

// spoilTexts changes all memory that a list of texts has.
func spoilTexts(texts []string) {
	texts = texts[:cap(texts)]
	for i := range texts {
		texts[i] = "spoilt"
	}
}

func TestPromise11DeadCodesAndTurnsAreLeftAlone(t *testing.T) {
	l := lockOf(2, 5)
	codes := []string{"00", "01", "02", "10", "11", "44", "03"}
	allTurns := parsed(t, "0+0-1-0-0-1+0+")
	codesBefore, turnsBefore := slices.Clone(codes), slices.Clone(allTurns)
	dead, turns := codes[1:4], allTurns[1:5]
	first := callAll(l, dead, "00", "22", turns)
	for range 20 { // what is told does not hang on the order of a map either
		same(t, "the same calls again", callAll(l, dead, "00", "22", turns), true, first)
	}
	same(t, "without room behind the lists", callAll(l, slices.Clip(slices.Clone(dead)), "00", "22", slices.Clip(slices.Clone(turns))), true, first)
	if !slices.Equal(codes, codesBefore) || !slices.Equal(allTurns, turnsBefore) {
		t.Errorf("the arguments became %v and %v", codes, allTurns)
	}
	same(t, "nil and empty lists", callAll(l, []string{}, "00", "22", []impl.Turn{}), true, callAll(l, nil, "00", "22", nil))
}

func TestPromise11BadDeadCodesAreLeftAlone(t *testing.T) {
	for _, dead := range [][]string{{"10", "01"}, {"01", "01"}, {"7", "01", ""}} {
		before := slices.Clone(dead)
		callAll(lockOf(2, 5), dead, "00", "22", []impl.Turn{turnBy(9, 9)})
		sameList(t, "the dead codes", dead, true, before)
	}
}
