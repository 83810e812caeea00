package tests

import (
	"fmt"
	"slices"
	"strings"
	"testing"

	"loop.example/g01304/impl"
)

// Promise 5: one turn leads to each next code, and round orders come back.

func TestPromise5Example(t *testing.T) {
	l := lockOf(2, 3)
	for rank, want := range []string{"00", "01", "02", "12", "11", "10", "20", "21", "22"} {
		code, ok := impl.ForthCode(l, rank)
		same(t, fmt.Sprint("ForthCode ", rank), code, ok, want)
		n, ok := impl.ForthRank(l, want)
		same(t, "ForthRank "+want, n, ok, rank)
	}
	for rank, want := range []string{"00", "01", "02", "12", "10", "11", "21", "22", "20"} {
		code, ok := impl.RoundCode(l, rank)
		same(t, fmt.Sprint("RoundCode ", rank), code, ok, want)
		n, ok := impl.RoundRank(l, want)
		same(t, "RoundRank "+want, n, ok, rank)
	}
	turn, ok := impl.TurnInRound(l, 2)
	same(t, "TurnInRound", turn, ok, turnBy(0, 1))
	times, ok := impl.WheelTurns(l)
	sameList(t, "WheelTurns", times, ok, []int{3, 6})
	codes, ok := impl.RoundPart(l, 7, 3)
	sameList(t, "RoundPart", codes, ok, []string{"22", "20", "00"})
	codes, ok = impl.ForthPart(l, 3, 4)
	sameList(t, "ForthPart", codes, ok, []string{"12", "11", "10", "20"})
	n, ok := impl.CountWhole(lockOf(2, 2))
	same(t, "CountWhole", n, ok, 2)
	n, ok = impl.CountClosed(lockOf(2, 2))
	same(t, "CountClosed", n, ok, 2)
}

func TestPromise5Limits(t *testing.T) {
	same(t, "MaxOrdered", impl.MaxOrdered, true, 9)
	same(t, "MaxPart", impl.MaxPart, true, 60)
}

func TestPromise5CodesAndRanks(t *testing.T) {
	for _, l := range locksUpTo(10000) {
		what := fmt.Sprint(l)
		for rank, want := range forthOrder(l) {
			code, ok := impl.ForthCode(l, rank)
			same(t, fmt.Sprint("ForthCode ", what, rank), code, ok, want)
			n, ok := impl.ForthRank(l, want)
			same(t, "ForthRank "+what+want, n, ok, rank)
		}
		for rank, want := range roundOrder(l) {
			code, ok := impl.RoundCode(l, rank)
			same(t, fmt.Sprint("RoundCode ", what, rank), code, ok, want)
			n, ok := impl.RoundRank(l, want)
			same(t, "RoundRank "+what+want, n, ok, rank)
		}
	}
}

// sameTurn checks that a turn is the first one that leads from one code to the other one.
func sameTurn(t *testing.T, what string, l impl.Lock, turn impl.Turn, ok bool, from string, to string) {
	t.Helper()
	want, there := turnTo(l, from, to)
	same(t, what, turn, ok && there, want)
}

func TestPromise5TurnsToNextCodes(t *testing.T) {
	for _, l := range locksUpTo(10000) {
		forth, round := forthOrder(l), roundOrder(l)
		last := len(forth) - 1
		for rank := range last {
			what := fmt.Sprint(l, rank)
			turn, ok := impl.TurnInForth(l, rank)
			sameTurn(t, "TurnInForth "+what, l, turn, ok, forth[rank], forth[rank+1])
			turn, ok = impl.TurnInRound(l, rank)
			sameTurn(t, "TurnInRound "+what, l, turn, ok, round[rank], round[rank+1])
			same(t, "TurnInRound is by 1 "+what, turn.By, ok, 1)
		}
		turn, ok := impl.TurnInForth(l, last)
		fails(t, fmt.Sprint("TurnInForth of the last code ", l), turn, ok)
		turn, ok = impl.TurnInRound(l, last)
		sameTurn(t, fmt.Sprint("TurnInRound of the last code ", l), l, turn, ok, round[last], round[0])
		same(t, fmt.Sprint("TurnInRound of the last code ", l), turn, ok, turnBy(0, 1))
	}
}

// ranksOfMany returns ranks of a lock with many codes: the first and the last ones, those where several digits change, and some between.
func ranksOfMany(l impl.Lock) []int {
	count := codesCounted(l)
	var ranks []int
	for part := count; part > 1; part /= l.Digits {
		for times := range l.Digits + 1 {
			for _, beside := range []int{-2, -1, 0, 1} {
				ranks = append(ranks, part*times+beside, count-1-(part*times+beside))
			}
		}
	}
	for rank := 0; rank < count; rank += 1 + count/997 {
		ranks = append(ranks, rank)
	}
	return slices.DeleteFunc(ranks, func(rank int) bool { return rank < 0 || rank >= count })
}

func TestPromise5LocksWithManyCodes(t *testing.T) {
	for _, l := range locksOver(10000) {
		forth, round, last := forthOrder(l), roundOrder(l), codesCounted(l)-1
		for _, rank := range ranksOfMany(l) {
			what := fmt.Sprint(l, rank)
			code, ok := impl.ForthCode(l, rank)
			same(t, "ForthCode "+what, code, ok, forth[rank])
			n, ok := impl.ForthRank(l, forth[rank])
			same(t, "ForthRank "+what, n, ok, rank)
			code, ok = impl.RoundCode(l, rank)
			same(t, "RoundCode "+what, code, ok, round[rank])
			n, ok = impl.RoundRank(l, round[rank])
			same(t, "RoundRank "+what, n, ok, rank)
			turn, ok := impl.TurnInRound(l, rank)
			sameTurn(t, "TurnInRound "+what, l, turn, ok, round[rank], round[(rank+1)%len(round)])
			turn, ok = impl.TurnInForth(l, rank)
			if rank == last {
				fails(t, "TurnInForth "+what, turn, ok)
				continue
			}
			sameTurn(t, "TurnInForth "+what, l, turn, ok, forth[rank], forth[rank+1])
		}
	}
}

func TestPromise5OneWheel(t *testing.T) {
	for digits := 2; digits <= 10; digits++ {
		l := lockOf(1, digits)
		what := fmt.Sprint(l)
		for rank, want := range digitsUsed(l) {
			code, ok := impl.ForthCode(l, rank)
			same(t, "ForthCode "+what, code, ok, string(want))
			code, ok = impl.RoundCode(l, rank)
			same(t, "RoundCode "+what, code, ok, string(want))
			turn, ok := impl.TurnInRound(l, rank)
			same(t, "TurnInRound "+what, turn, ok, turnBy(0, 1))
			turn, ok = impl.TurnInForth(l, rank)
			if rank == digits-1 {
				fails(t, "TurnInForth "+what, turn, ok)
				continue
			}
			same(t, "TurnInForth "+what, turn, ok, turnBy(0, 1))
		}
		times, ok := impl.WheelTurns(l)
		sameList(t, "WheelTurns "+what, times, ok, []int{digits})
		sameKinds(t, what, l, codesOf(l), true, true, true)
	}
}

// Both turns lead to the same code: the one by 1 is taken, also where a digit becomes less.
func TestPromise5TwoDigits(t *testing.T) {
	l := lockOf(2, 2)
	for rank, want := range []impl.Turn{turnBy(1, 1), turnBy(0, 1), turnBy(1, 1), turnBy(0, 1)} {
		turn, ok := impl.TurnInRound(l, rank)
		same(t, fmt.Sprint("TurnInRound ", rank), turn, ok, want)
		if rank < 3 {
			turn, ok = impl.TurnInForth(l, rank)
			same(t, fmt.Sprint("TurnInForth ", rank), turn, ok, want)
		}
	}
	turns, ok := impl.TurnsOfOrder(l, []string{"11", "10", "00", "01"})
	sameList(t, "TurnsOfOrder", turns, ok, []impl.Turn{turnBy(1, 1), turnBy(0, 1), turnBy(1, 1)})
	turns, ok = impl.TurnsOfOrder(lockOf(1, 2), []string{"1", "0"})
	sameList(t, "TurnsOfOrder of one wheel", turns, ok, []impl.Turn{turnBy(0, 1)})
	for wheels := 1; wheels <= 6; wheels++ {
		l := lockOf(wheels, 2)
		order := forthOrder(l)
		sameList(t, fmt.Sprint("both orders ", l), order, true, roundOrder(l))
		turns, ok := impl.TurnsOfOrder(l, order)
		back := slices.ContainsFunc(turns, func(turn impl.Turn) bool { return turn.By != 1 })
		same(t, fmt.Sprint("a turn back ", l), back, ok, false)
	}
}

// On wheels of more digits the forth and back order has turns back, and orders go around behind the last digit.
func TestPromise5TurnsForthAndBack(t *testing.T) {
	l := lockOf(2, 3)
	for rank, want := range []impl.Turn{turnBy(1, 1), turnBy(1, 1), turnBy(0, 1), turnBy(1, -1), turnBy(1, -1), turnBy(0, 1), turnBy(1, 1), turnBy(1, 1)} {
		turn, ok := impl.TurnInForth(l, rank)
		same(t, fmt.Sprint("TurnInForth ", rank), turn, ok, want)
	}
	turns, ok := impl.TurnsOfOrder(l, []string{"00", "02", "22", "20", "21"})
	sameList(t, "TurnsOfOrder", turns, ok, []impl.Turn{turnBy(1, -1), turnBy(0, -1), turnBy(1, 1), turnBy(1, 1)})
}

func TestPromise5Parts(t *testing.T) {
	for _, l := range locksUpTo(30) {
		forth, round := forthOrder(l), roundOrder(l)
		around := slices.Repeat(round, 2+impl.MaxPart/len(round))
		for rank := range forth {
			for count := range impl.MaxPart + 1 {
				what := fmt.Sprint(l, rank, count)
				codes, ok := impl.RoundPart(l, rank, count)
				sameList(t, "RoundPart "+what, codes, ok, around[rank:rank+count])
				codes, ok = impl.ForthPart(l, rank, count)
				if rank+count > len(forth) {
					failsList(t, "ForthPart "+what, codes, ok)
					continue
				}
				sameList(t, "ForthPart "+what, codes, ok, forth[rank:rank+count])
			}
		}
	}
}

func TestPromise5PartsAroundTheEnd(t *testing.T) {
	for _, l := range locksOver(60) {
		forth, round := forthOrder(l), roundOrder(l)
		around := slices.Concat(round, round[:impl.MaxPart])
		count := len(forth)
		for _, rank := range []int{0, 1, count / 2, count - 61, count - 60, count - 59, count - 2, count - 1} {
			for _, wanted := range []int{0, 1, 2, 59, impl.MaxPart} {
				what := fmt.Sprint(l, rank, wanted)
				codes, ok := impl.RoundPart(l, rank, wanted)
				sameList(t, "RoundPart "+what, codes, ok, around[rank:rank+wanted])
				codes, ok = impl.ForthPart(l, rank, wanted)
				if rank+wanted > count {
					failsList(t, "ForthPart "+what, codes, ok)
					continue
				}
				sameList(t, "ForthPart "+what, codes, ok, forth[rank:rank+wanted])
			}
		}
	}
}

func TestPromise5WheelTurns(t *testing.T) {
	for _, l := range locksUpTo(10000) {
		round := roundOrder(l)
		want := make([]int, l.Wheels)
		for i, code := range round {
			turn, _ := turnTo(l, code, round[(i+1)%len(round)])
			want[turn.Wheel]++
		}
		times, ok := impl.WheelTurns(l)
		sameList(t, fmt.Sprint("WheelTurns ", l), times, ok, want)
	}
	for _, l := range allLocks() {
		times, ok := impl.WheelTurns(l)
		all := 0
		for _, n := range times {
			all += n
		}
		same(t, fmt.Sprint("WheelTurns together ", l), all, ok && len(times) == l.Wheels, codesCounted(l))
	}
	times, ok := impl.WheelTurns(lockOf(6, 10))
	sameList(t, "WheelTurns of most codes", times, ok, []int{10, 90, 900, 9000, 90000, 900000})
}

// All lists of some codes and of some texts that are none are tried.
func TestPromise5OrdersAmongAllLists(t *testing.T) {
	cases := []struct {
		lock  impl.Lock
		texts []string
		most  int
	}{
		{lockOf(1, 2), []string{"0", "1", "2", ""}, 4},
		{lockOf(1, 3), []string{"0", "1", "2", "3", "00"}, 4},
		{lockOf(1, 4), []string{"0", "1", "2", "3"}, 5},
		{lockOf(2, 2), []string{"00", "01", "10", "11", "0"}, 5},
		{lockOf(2, 3), codesOf(lockOf(2, 3)), 4},
		{lockOf(3, 2), codesOf(lockOf(3, 2)), 4},
	}
	for _, c := range cases {
		for length := range c.most + 1 {
			for _, list := range listsOf(c.texts, length) {
				sameKinds(t, fmt.Sprint(c.lock, list), c.lock, list, isAnyOrder(c.lock, list), isAnyWhole(c.lock, list), isAnyClosed(c.lock, list))
			}
		}
	}
}

func TestPromise5OrderOfNoCodes(t *testing.T) {
	for _, l := range allLocks() {
		sameKinds(t, fmt.Sprint("nil ", l), l, nil, true, false, false)
		sameKinds(t, fmt.Sprint("empty ", l), l, []string{}, true, false, false)
		zeros := strings.Repeat("0", l.Wheels)
		sameKinds(t, fmt.Sprint("one code ", l), l, []string{zeros}, true, false, false)
		turns, ok := impl.TurnsOfOrder(l, nil)
		sameList(t, fmt.Sprint("TurnsOfOrder ", l), turns, ok, nil)
	}
}

func TestPromise5BothOrdersAreOrders(t *testing.T) {
	for _, l := range locksUpTo(mostInOrder) {
		what := fmt.Sprint(l)
		forth, round := forthOrder(l), roundOrder(l)
		last := len(forth) - 1
		_, forthIsClosed := turnTo(l, forth[last], forth[0])
		sameKinds(t, "forth "+what, l, forth, true, true, forthIsClosed)
		sameKinds(t, "round "+what, l, round, true, true, true)
		sameKinds(t, "round from another code on "+what, l, slices.Concat(round[last/2:], round[:last/2]), true, true, true)
		sameKinds(t, "without the last code "+what, l, round[:last], true, false, false)
		sameKinds(t, "without the first code "+what, l, forth[1:], true, false, false)
		slices.Reverse(forth)
		sameKinds(t, "back "+what, l, forth, true, true, forthIsClosed)
		slices.Reverse(round)
		sameKinds(t, "round the other way "+what, l, round, true, true, true)
	}
	same(t, "a forth order is closed", isAnyClosed(lockOf(3, 2), forthOrder(lockOf(3, 2))), true, true)
	same(t, "a forth order is not closed", isAnyClosed(lockOf(2, 3), forthOrder(lockOf(2, 3))), true, false)
}

// Orders have more turns than a list of turns may have that is told to a function.
func TestPromise5LongestOrders(t *testing.T) {
	for _, l := range []impl.Lock{lockOf(3, 10), lockOf(4, 6), lockOf(4, 10), lockOf(6, 4), lockOf(6, 10)} {
		what := fmt.Sprint(l)
		longest := forthOrder(l)[:mostInOrder]
		whole := l == lockOf(3, 10)
		sameKinds(t, what, l, longest, true, whole, whole) // 900 is the last one of all
		turns, ok := impl.TurnsOfOrder(l, longest)
		same(t, "TurnsOfOrder "+what, len(turns), ok, mostInOrder-1)
		code := longest[0]
		for i, turn := range turns {
			code = turned(l, code, turn)
			same(t, "code behind turns "+what, code, true, longest[i+1])
		}
		if !whole {
			sameKinds(t, "one code more "+what, l, forthOrder(l)[:mostInOrder+1], false, false, false)
		}
	}
}

func TestPromise5WholeOrders(t *testing.T) {
	for _, l := range locksUpTo(impl.MaxOrdered) {
		what := fmt.Sprint(l)
		orders := wholeFromZeros(l)
		codes, ok := impl.FirstWhole(l)
		sameList(t, "FirstWhole "+what, codes, ok, orders[0])
		n, ok := impl.CountWhole(l)
		same(t, "CountWhole "+what, n, ok, len(orders))
		closed := 0
		for _, order := range orders {
			is := isAnyClosed(l, order)
			sameKinds(t, fmt.Sprint(l, order), l, order, true, true, is)
			if is {
				closed++
			}
		}
		n, ok = impl.CountClosed(l)
		same(t, "CountClosed "+what, n, ok, closed)
	}
}

// Two wheels of three digits are a square whose places are beside all others of their row and column, and three of two digits a cube.
func TestPromise5WholeOrdersUpToTheLimit(t *testing.T) {
	for l, want := range map[impl.Lock][2]int{
		lockOf(1, 2): {1, 1}, lockOf(1, 3): {2, 2}, lockOf(1, 9): {2, 2}, lockOf(2, 2): {2, 2}, lockOf(2, 3): {168, 96}, lockOf(3, 2): {18, 12},
	} {
		n, ok := impl.CountWhole(l)
		same(t, fmt.Sprint("CountWhole ", l), n, ok, want[0])
		n, ok = impl.CountClosed(l)
		same(t, fmt.Sprint("CountClosed ", l), n, ok, want[1])
	}
	codes, ok := impl.FirstWhole(lockOf(2, 3))
	sameList(t, "FirstWhole", codes, ok, []string{"00", "01", "02", "12", "10", "11", "21", "20", "22"})
	codes, ok = impl.FirstWhole(lockOf(1, 9))
	sameList(t, "FirstWhole of one wheel", codes, ok, codesOf(lockOf(1, 9)))
	for _, l := range locksOver(impl.MaxOrdered) {
		failsWithManyCodes(t, fmt.Sprint(l), l)
	}
}
