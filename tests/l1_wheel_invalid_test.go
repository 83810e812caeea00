package tests

import (
	"fmt"
	"math"
	"slices"
	"strings"
	"testing"

	"loop.example/g01304/impl"
)

// Promise 11: every function accepts all arguments without panicking and modifies none of them.

func badLocks() []impl.Lock {
	return []impl.Lock{
		{}, lockOf(0, 5), lockOf(7, 5), lockOf(-1, 5), lockOf(3, 1), lockOf(3, 0), lockOf(3, -2), lockOf(3, 11),
		lockOf(math.MaxInt, 10), lockOf(math.MinInt, 10), lockOf(3, math.MaxInt), lockOf(3, math.MinInt),
		lockOf(math.MinInt, math.MaxInt),
	}
}

// None of these is a code of 3 wheels with 5 digits.
func badCodes() []string {
	return []string{
		"", "0", "00", "0000", "005", "500", "050", "00:", "00/", "0 0", "-10", "+10", "00a", "00\x00", "00\xff", "\xff\xff\xff",
		"00\n", "é0", "٣٣", "٠٠٠", strings.Repeat("0", 100000),
	}
}

// None of these is a turn of 3 wheels.
func badTurns() []impl.Turn {
	return []impl.Turn{
		turnBy(0, 0), turnBy(0, 2), turnBy(0, -2), turnBy(3, 1), turnBy(3, -1), turnBy(-1, 1), turnBy(-1, -1),
		turnBy(math.MaxInt, 1), turnBy(math.MinInt, -1), turnBy(0, math.MaxInt), turnBy(0, math.MinInt),
		turnBy(math.MinInt, math.MinInt),
	}
}

func TestPromise11IsLock(t *testing.T) {
	for wheels := -1; wheels <= impl.MaxWheels+1; wheels++ {
		for digits := -1; digits <= 11; digits++ {
			want := 1 <= wheels && wheels <= 6 && 2 <= digits && digits <= 10
			if got := impl.IsLock(lockOf(wheels, digits)); got != want {
				t.Errorf("IsLock %d %d: got %v", wheels, digits, got)
			}
		}
	}
	for _, l := range badLocks() {
		if impl.IsLock(l) {
			t.Errorf("IsLock %v should be false", l)
		}
	}
}

// callWithCodes calls all functions that require codes, each code in each place beside a valid one.
func callWithCodes(t *testing.T, l impl.Lock, code string, good string) {
	t.Helper()
	what := fmt.Sprintf("%v %.20q", l, code)
	turn := turnBy(0, 1)
	text, ok := impl.TurnWheel(l, code, turn)
	fails(t, "TurnWheel "+what, text, ok)
	text, ok = impl.TurnWheels(l, code, []impl.Turn{turn})
	fails(t, "TurnWheels "+what, text, ok)
	text, ok = impl.TurnWheels(l, code, nil)
	fails(t, "TurnWheels without turns "+what, text, ok)
	codes, ok := impl.NextCodes(l, code)
	failsList(t, "NextCodes "+what, codes, ok)
	codes, n, ok := impl.FarthestCodes(l, code)
	failsList(t, "FarthestCodes "+what, codes, ok)
	fails(t, "greatest distance "+what, n, ok)
	n, ok = impl.NumberOfCode(l, code)
	fails(t, "NumberOfCode "+what, n, ok)
	text, ok = impl.OppositeCode(l, code)
	fails(t, "OppositeCode "+what, text, ok)
	for _, pair := range [][2]string{{code, code}, {code, good}, {good, code}} {
		n, ok = impl.FewestTurns(l, pair[0], pair[1])
		fails(t, "FewestTurns "+what, n, ok)
		turns, ok := impl.FirstTurns(l, pair[0], pair[1])
		failsList(t, "FirstTurns "+what, turns, ok)
		n, ok = impl.CountFewest(l, pair[0], pair[1])
		fails(t, "CountFewest "+what, n, ok)
		text, ok = impl.AddCodes(l, pair[0], pair[1])
		fails(t, "AddCodes "+what, text, ok)
	}
}

func TestPromise11BadCodes(t *testing.T) {
	l := lockOf(3, 5)
	for _, code := range badCodes() {
		is, ok := impl.IsCode(l, code)
		same(t, fmt.Sprintf("IsCode %.20q", code), is, ok, false)
		callWithCodes(t, l, code, "000")
	}
}

func TestPromise11BadLocks(t *testing.T) {
	for _, l := range badLocks() {
		what := fmt.Sprint(l)
		for _, code := range []string{"", "0", "000", "012"} {
			is, ok := impl.IsCode(l, code)
			fails(t, "IsCode "+what, is, ok)
			callWithCodes(t, l, code, code)
		}
		n, ok := impl.CountCodes(l)
		fails(t, "CountCodes "+what, n, ok)
		text, ok := impl.ZeroCode(l)
		fails(t, "ZeroCode "+what, text, ok)
		for _, turns := range [][]impl.Turn{nil, {turnBy(0, 1)}, {turnBy(0, -1)}, {turnBy(math.MaxInt, 1)}} {
			backTurns, ok := impl.BackTurns(l, turns)
			failsList(t, "BackTurns "+what, backTurns, ok)
		}
		n, ok = impl.CountAtDistance(l, 0)
		fails(t, "CountAtDistance "+what, n, ok)
		over, under, ok := impl.MeanDistance(l)
		fails(t, "MeanDistance "+what, [2]int{over, under}, ok)
		text, ok = impl.CodeOfNumber(l, 0)
		fails(t, "CodeOfNumber "+what, text, ok)
	}
}

func TestPromise11BadTurns(t *testing.T) {
	l := lockOf(3, 5)
	for _, turn := range badTurns() {
		what := fmt.Sprint(turn)
		code, ok := impl.TurnWheel(l, "000", turn)
		fails(t, "TurnWheel "+what, code, ok)
		for _, turns := range [][]impl.Turn{{turn}, {turnBy(0, 1), turn}, {turn, turnBy(2, -1)}} {
			code, ok = impl.TurnWheels(l, "000", turns)
			fails(t, "TurnWheels "+what, code, ok)
			backTurns, ok := impl.BackTurns(l, turns)
			failsList(t, "BackTurns "+what, backTurns, ok)
		}
	}
	for _, turn := range append(badTurns(), turnBy(impl.MaxWheels, 1), turnBy(impl.MaxWheels, -1)) {
		if turn.Wheel == 3 {
			continue // a text of turns may have it
		}
		for _, turns := range [][]impl.Turn{{turn}, {turnBy(0, 1), turn}, {turn, turnBy(2, -1)}} {
			text, ok := impl.TurnsText(turns)
			fails(t, fmt.Sprint("TurnsText ", turns), text, ok)
		}
	}
}

func TestPromise11TooManyTurns(t *testing.T) {
	l := lockOf(3, 5)
	turns := slices.Repeat([]impl.Turn{turnBy(1, 1)}, impl.MaxTurns+1)
	code, ok := impl.TurnWheels(l, "000", turns)
	fails(t, "TurnWheels", code, ok)
	backTurns, ok := impl.BackTurns(l, turns)
	failsList(t, "BackTurns", backTurns, ok)
	text, ok := impl.TurnsText(turns)
	fails(t, "TurnsText", text, ok)
	parsedTurns, ok := impl.ParseTurns(strings.Repeat("1+", impl.MaxTurns+1))
	failsList(t, "ParseTurns", parsedTurns, ok)
}

func TestPromise11NumbersOutOfRange(t *testing.T) {
	l := lockOf(3, 5)
	for _, n := range []int{-1, 101, math.MaxInt, math.MinInt} {
		count, ok := impl.CountAtDistance(l, n)
		fails(t, fmt.Sprint("CountAtDistance ", n), count, ok)
	}
	for _, n := range []int{-1, 125, math.MaxInt, math.MinInt} {
		code, ok := impl.CodeOfNumber(l, n)
		fails(t, fmt.Sprint("CodeOfNumber ", n), code, ok)
	}
	code, ok := impl.CodeOfNumber(l, 124)
	same(t, "CodeOfNumber", code, ok, "444")
	count, ok := impl.CountAtDistance(l, 100)
	same(t, "CountAtDistance", count, ok, 0)
}

func TestPromise11BadTexts(t *testing.T) {
	bad := []string{
		"0", "+", "+0", "00", "6+", "9-", "0*", "0+1", "0+ 1+", " 0+", "0+\n", "0 +", "0+,1+", "/+", ":+", "a+",
		"00+", "10-", "-1+", "\x00+", "\xff-", "0−", "٣+", strings.Repeat("0+", 100000), strings.Repeat("9", 100001),
	}
	for _, s := range bad {
		turns, ok := impl.ParseTurns(s)
		failsList(t, fmt.Sprintf("ParseTurns %.20q", s), turns, ok)
	}
}

func TestPromise11ArgumentsAreLeftAlone(t *testing.T) {
	l := lockOf(3, 5)
	room := parsed(t, "0+1-2+2-1+0-")
	turns, before := room[1:4], slices.Clone(room)
	first, _ := impl.TurnWheels(l, "000", turns)
	impl.TurnsText(turns)
	backTurns, ok := impl.BackTurns(l, turns)
	sameList(t, "BackTurns", backTurns, ok, parsed(t, "2+2-1+"))
	// What is done with a result is not seen by the argument.
	_ = append(backTurns, turnBy(9, 9))
	for i := range backTurns {
		backTurns[i] = turnBy(9, 9)
	}
	if !slices.Equal(room, before) {
		t.Errorf("the turns became %v", room)
	}
	again, ok := impl.TurnWheels(l, "000", turns)
	same(t, "the same call again", again, ok, first)
}

func TestPromise11ResultsAreNew(t *testing.T) {
	l := lockOf(2, 4)
	for range 2 {
		codes, ok := impl.NextCodes(l, "00")
		sameList(t, "NextCodes", codes, ok, []string{"01", "03", "10", "30"})
		clear(codes)
		codes, _, ok = impl.FarthestCodes(l, "00")
		sameList(t, "FarthestCodes", codes, ok, []string{"22"})
		clear(codes)
		turns, ok := impl.FirstTurns(l, "00", "13")
		sameList(t, "FirstTurns", turns, ok, []impl.Turn{turnBy(0, 1), turnBy(1, -1)})
		clear(turns)
		turns, ok = impl.ParseTurns("0+1-")
		sameList(t, "ParseTurns", turns, ok, []impl.Turn{turnBy(0, 1), turnBy(1, -1)})
		clear(turns)
	}
}
