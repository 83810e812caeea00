package tests

import (
	"fmt"
	"math"
	"runtime"
	"slices"
	"strings"
	"sync"
	"testing"

	"loop.example/g01304/impl"
)

// Promise 11: every function accepts all arguments without panicking and modifies none of them.

func TestPromise11LocksWithoutOrders(t *testing.T) {
	for _, l := range badLocks() {
		what := fmt.Sprint(l)
		for _, rank := range []int{math.MinInt, -1, 0, 1, math.MaxInt} {
			failsWithRank(t, what, l, rank)
		}
		zeros := strings.Repeat("0", max(0, min(l.Wheels, 10)))
		for _, code := range []string{"", "0", "1", "00", "000", zeros} {
			n, ok := impl.ForthRank(l, code)
			fails(t, "ForthRank "+what, n, ok)
			n, ok = impl.RoundRank(l, code)
			fails(t, "RoundRank "+what, n, ok)
			for _, list := range [][]string{nil, {}, {code}, {code, code}, {code, "1"}} {
				is, ok := impl.IsTurnOrder(l, list)
				fails(t, "IsTurnOrder "+what, is, ok)
				is, ok = impl.IsWholeOrder(l, list)
				fails(t, "IsWholeOrder "+what, is, ok)
				is, ok = impl.IsClosedOrder(l, list)
				fails(t, "IsClosedOrder "+what, is, ok)
				turns, ok := impl.TurnsOfOrder(l, list)
				failsList(t, "TurnsOfOrder "+what, turns, ok)
			}
		}
		times, ok := impl.WheelTurns(l)
		failsList(t, "WheelTurns "+what, times, ok)
		failsWithManyCodes(t, what, l)
	}
}

func TestPromise11BadCodesOfOrders(t *testing.T) {
	l := lockOf(3, 5)
	for _, code := range badCodes() {
		what := fmt.Sprintf("%.20q", code)
		n, ok := impl.ForthRank(l, code)
		fails(t, "ForthRank "+what, n, ok)
		n, ok = impl.RoundRank(l, code)
		fails(t, "RoundRank "+what, n, ok)
		for _, list := range [][]string{{code}, {code, "000"}, {"000", code}, {"000", "001", code, "002"}} {
			sameKinds(t, what, l, list, false, false, false)
		}
	}
}

func TestPromise11RanksOutOfRange(t *testing.T) {
	for _, l := range allLocks() {
		count := codesCounted(l)
		ranks := []int{-1, -2, -count, -count - 1, count, count + 1, 2 * count, 1 << 32, 1 << 62, math.MinInt, math.MinInt + 1, math.MaxInt, math.MaxInt - 1}
		for _, rank := range ranks {
			failsWithRank(t, fmt.Sprint(l, rank), l, rank)
		}
	}
}

func TestPromise11CountsOutOfRange(t *testing.T) {
	for _, l := range allLocks() {
		for _, rank := range []int{0, 1, codesCounted(l) - 1} {
			for _, count := range []int{-1, -2, impl.MaxPart + 1, 1000, math.MinInt, math.MinInt + 1, math.MaxInt, math.MaxInt - 1} {
				failsWithPart(t, fmt.Sprint(l, rank, count), l, rank, count)
			}
		}
	}
}

func TestPromise11PartsWithTooFewCodes(t *testing.T) {
	for _, l := range allLocks() {
		last := codesCounted(l) - 1
		for count := range impl.MaxPart + 1 {
			codes, ok := impl.ForthPart(l, last, count)
			if count > 1 {
				failsList(t, fmt.Sprint("ForthPart ", l, count), codes, ok)
				continue
			}
			same(t, fmt.Sprint("ForthPart ", l, count), len(codes), ok, count)
		}
	}
}

func TestPromise11ListsThatAreNoOrders(t *testing.T) {
	l := lockOf(3, 5)
	lists := [][]string{
		{"000", "000"}, {"000", "001", "000"}, {"000", "001", "002", "003", "004", "000"}, {"000", "001", "011", "010", "000"},
		{"000", "002"}, {"000", "011"}, {"000", "111"}, {"000", "003"}, {"000", "001", "003"}, {"000", "004", "044", "033"},
		{"", ""}, {""}, {"000", ""}, {"000", "001", "01"}, {"000", "001", "0011"}, {"004", "005"}, {"004", "00:"}, {"000", "00/"},
		codesOf(l), append(roundOrder(l), "000"), append(forthOrder(l), "444"), append([]string{"000"}, roundOrder(l)...),
	}
	for _, list := range lists {
		sameKinds(t, fmt.Sprintf("%.60q", fmt.Sprint(list)), l, list, false, false, false)
	}
	// An order of one lock is none of others.
	for _, other := range []impl.Lock{lockOf(2, 5), lockOf(3, 4), lockOf(4, 5), lockOf(1, 5), lockOf(3, 2)} {
		sameKinds(t, fmt.Sprint(other), other, roundOrder(l), false, false, false)
	}
	// The distance of 004 and 000 is 4 if there are more digits.
	sameKinds(t, "around", l, []string{"004", "000"}, true, false, false)
	sameKinds(t, "not around", lockOf(3, 6), []string{"004", "000"}, false, false, false)
}

// One code twice, two codes exchanged, or one left out: no order is left.
func TestPromise11ListsNearOrders(t *testing.T) {
	for _, l := range []impl.Lock{lockOf(1, 10), lockOf(2, 4), lockOf(2, 5), lockOf(3, 3), lockOf(4, 4)} {
		for name, order := range map[string][]string{"forth": forthOrder(l), "round": roundOrder(l)} {
			for i := 0; i < len(order)-3; i += 1 + len(order)/9 {
				what := fmt.Sprint(name, l, i)
				near := slices.Insert(slices.Clone(order), i+1, order[i])
				sameKinds(t, "twice "+what, l, near, false, false, false)
				near = slices.Clone(order)
				near[i+1], near[i+2] = near[i+2], near[i+1]
				sameKinds(t, "exchanged "+what, l, near, isAnyOrder(l, near), isAnyWhole(l, near), isAnyClosed(l, near))
				near = slices.Delete(slices.Clone(order), i+1, i+2)
				sameKinds(t, "left out "+what, l, near, isAnyOrder(l, near), false, false)
			}
		}
	}
}

func TestPromise11ListsThatAreTooLong(t *testing.T) {
	l := lockOf(3, 10)
	round := roundOrder(l)
	sameKinds(t, "all codes", l, round, true, true, true)
	sameKinds(t, "and the first one again", l, append(slices.Clone(round), round[0]), false, false, false)
	sameKinds(t, "again and again", l, slices.Repeat(round, 100), false, false, false)
	sameKinds(t, "texts that are no codes", l, make([]string, 100000), false, false, false)
	// These would be orders, and even closed ones, if they could be longer.
	for _, l := range locksOver(mostInOrder) {
		round := roundOrder(l)
		sameKinds(t, fmt.Sprint("all codes ", l), l, round, false, false, false)
		sameKinds(t, fmt.Sprint("one too many ", l), l, round[:mostInOrder+1], false, false, false)
		sameKinds(t, fmt.Sprint("as many as may be ", l), l, round[:mostInOrder], true, false, false)
	}
}

// callOrders calls all functions of chapter 5, tells what they return, and spoils the lists.
func callOrders(l impl.Lock, list []string, code string, rank int, count int) string {
	var told []any
	tell := func(results ...any) { told = append(told, results...) }
	tellText := func(text string, ok bool) { tell(text, ok) }
	tellNumber := func(number int, ok bool) { tell(number, ok) }
	tellTurn := func(turn impl.Turn, ok bool) { tell(turn, ok) }
	tellIs := func(is bool, ok bool) { tell(is, ok) }
	tellList := func(texts []string, ok bool) {
		tell(slices.Clone(texts), ok)
		spoilTexts(texts)
	}
	tellText(impl.ForthCode(l, rank))
	tellNumber(impl.ForthRank(l, code))
	tellText(impl.RoundCode(l, rank))
	tellNumber(impl.RoundRank(l, code))
	tellTurn(impl.TurnInForth(l, rank))
	tellTurn(impl.TurnInRound(l, rank))
	tellList(impl.ForthPart(l, rank, count))
	tellList(impl.RoundPart(l, rank, count))
	tellIs(impl.IsTurnOrder(l, list))
	tellIs(impl.IsWholeOrder(l, list))
	tellIs(impl.IsClosedOrder(l, list))
	tellList(impl.FirstWhole(l))
	tellNumber(impl.CountWhole(l))
	tellNumber(impl.CountClosed(l))
	times, ok := impl.WheelTurns(l)
	tell(slices.Clone(times), ok)
	clear(times[:cap(times)])
	turns, ok := impl.TurnsOfOrder(l, list)
	tell(slices.Clone(turns), ok)
	clear(turns[:cap(turns)])
	return fmt.Sprint(told...)
}

func TestPromise11OrdersAreLeftAlone(t *testing.T) {
	for _, l := range []impl.Lock{lockOf(1, 5), lockOf(2, 2), lockOf(2, 3), lockOf(3, 2), lockOf(3, 4)} {
		what := fmt.Sprint(l)
		room := slices.Concat([]string{"before"}, roundOrder(l), []string{"behind", "it"})
		before := slices.Clone(room)
		list := room[1 : len(room)-2]
		first := callOrders(l, list, list[1], 1, 2)
		for range 5 {
			same(t, "the same calls again "+what, callOrders(l, list, list[1], 1, 2), true, first)
		}
		same(t, "without room behind the list "+what, callOrders(l, slices.Clip(slices.Clone(list)), list[1], 1, 2), true, first)
		sameList(t, "the list "+what, room, true, before)
		same(t, "nil and empty lists "+what, callOrders(l, []string{}, list[1], 1, 0), true, callOrders(l, nil, list[1], 1, 0))
	}
}

func TestPromise11ListsThatAreNoOrdersAreLeftAlone(t *testing.T) {
	for _, list := range [][]string{{"01", "00", "01"}, {"00", "11"}, {"7", "01", ""}, {"02", "00", "01"}} {
		before := slices.Clone(list)
		callOrders(lockOf(2, 5), list, "77", -1, 99)
		sameList(t, "the list", list, true, before)
	}
}

func TestPromise11NothingPanicsWithOrders(t *testing.T) {
	locks := append(badLocks(), lockOf(1, 2), lockOf(1, 10), lockOf(2, 3), lockOf(3, 5), lockOf(6, 10))
	codes := append(badCodes(), "0", "1", "00", "22", "000", "444", "000000", "999999")
	numbers := []int{math.MinInt, math.MinInt + 1, -1, 0, 1, 8, 59, 60, 61, 999999, 1000000, math.MaxInt - 1, math.MaxInt}
	for _, l := range locks {
		for i, code := range codes {
			list := []string{codes[(i*5+1)%len(codes)], code}
			for k, rank := range numbers {
				callOrders(l, list, code, rank, numbers[(i+k*3)%len(numbers)])
			}
		}
	}
}

// partCalls are calls that end in all ways: with all codes, with none, with too few, and at once.
func partCalls() map[string]func() {
	part := func(take func(impl.Lock, int, int) ([]string, bool), l impl.Lock, rank int, count int) func() {
		return func() { take(l, rank, count) }
	}
	l, large := lockOf(2, 3), lockOf(6, 10)
	return map[string]func(){
		"forth":             part(impl.ForthPart, large, 0, impl.MaxPart),
		"forth up to last":  part(impl.ForthPart, l, 0, 9),
		"forth, no codes":   part(impl.ForthPart, l, 8, 0),
		"forth, too few":    part(impl.ForthPart, l, 0, 10),
		"forth, one of two": part(impl.ForthPart, l, 8, 2),
		"forth, no rank":    part(impl.ForthPart, l, 9, 1),
		"forth, no count":   part(impl.ForthPart, l, 0, -1),
		"forth, no part":    part(impl.ForthPart, l, 0, impl.MaxPart+1),
		"forth, no lock":    part(impl.ForthPart, lockOf(0, 0), 0, 1),
		"round":             part(impl.RoundPart, large, 0, impl.MaxPart),
		"round the end":     part(impl.RoundPart, large, 999999, impl.MaxPart),
		"round and round":   part(impl.RoundPart, l, 8, impl.MaxPart),
		"round, no codes":   part(impl.RoundPart, l, 0, 0),
		"round, no rank":    part(impl.RoundPart, l, -1, 1),
		"round, no count":   part(impl.RoundPart, l, 0, math.MinInt),
		"round, no part":    part(impl.RoundPart, l, 0, impl.MaxPart+1),
		"round, no lock":    part(impl.RoundPart, lockOf(7, 10), 0, 1),
		"all functions":     func() { callOrders(l, roundOrder(l), "22", 3, 9) },
		"all that fail":     func() { callOrders(l, []string{"00", "11"}, "33", 9, 61) },
		"whole orders":      func() { callOrders(lockOf(3, 2), forthOrder(lockOf(3, 2)), "111", 7, 2) },
	}
}

// One that has ended is counted for a moment yet, so that they are counted again and again before they count as left.
func TestPromise11NoGoroutineIsLeft(t *testing.T) {
	for what, call := range partCalls() {
		before := runtime.NumGoroutine()
		for range 200 {
			call()
		}
		for tries := 0; runtime.NumGoroutine() > before && tries < 1000000; tries++ {
			runtime.Gosched()
		}
		if left := runtime.NumGoroutine() - before; left > 0 {
			t.Errorf("%s: %d goroutines are left", what, left)
		}
	}
}

// With one processor a goroutine that is not waited for has had no turn to end when the call returns.
// One that has ended may seldom be counted yet, so that some calls out of many are let pass.
func TestPromise11GoroutinesAreWaitedFor(t *testing.T) {
	defer runtime.GOMAXPROCS(runtime.GOMAXPROCS(1))
	for what, call := range partCalls() {
		late := 0
		for range 200 {
			before := runtime.NumGoroutine()
			call()
			if runtime.NumGoroutine() > before {
				late++
			}
			for tries := 0; runtime.NumGoroutine() > before && tries < 1000; tries++ {
				runtime.Gosched()
			}
		}
		if late > 50 {
			t.Errorf("%s: goroutines went on behind %d of 200 calls", what, late)
		}
	}
}

func TestPromise11PartsAtTheSameTime(t *testing.T) {
	l := lockOf(2, 5)
	want := callOrders(l, roundOrder(l), "34", 7, 20)
	told := make([]string, 16)
	var callers sync.WaitGroup
	for i := range told {
		callers.Go(func() {
			for range 20 {
				told[i] = callOrders(l, roundOrder(l), "34", 7, 20)
			}
		})
	}
	callers.Wait()
	for _, s := range told {
		same(t, "calls at the same time", s, true, want)
	}
}
