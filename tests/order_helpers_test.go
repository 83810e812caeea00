package tests

import (
	"slices"
	"testing"

	"loop.example/g01304/impl"
)

// The helpers write whole orders down as the document tells them, and try all turns and all lists: they work out no rank.

const mostInOrder = 1000

// allLocks returns all locks there are.
func allLocks() []impl.Lock {
	var locks []impl.Lock
	for wheels := 1; wheels <= 6; wheels++ {
		for digits := 2; digits <= 10; digits++ {
			locks = append(locks, lockOf(wheels, digits))
		}
	}
	return locks
}

func codesCounted(l impl.Lock) int {
	count := 1
	for range l.Wheels {
		count *= l.Digits
	}
	return count
}

// locksUpTo returns all locks with at most so many codes.
func locksUpTo(most int) []impl.Lock {
	return slices.DeleteFunc(allLocks(), func(l impl.Lock) bool { return codesCounted(l) > most })
}

// locksOver returns all locks with more codes.
func locksOver(most int) []impl.Lock {
	return slices.DeleteFunc(allLocks(), func(l impl.Lock) bool { return codesCounted(l) <= most })
}

func forthOrder(l impl.Lock) []string {
	if l.Wheels == 1 {
		return codesOf(l)
	}
	forth := forthOrder(lockOf(l.Wheels-1, l.Digits))
	backwards := slices.Clone(forth)
	slices.Reverse(backwards)
	var order []string
	for i, digit := range digitsUsed(l) {
		others := forth
		if i%2 == 1 {
			others = backwards
		}
		for _, code := range others {
			order = append(order, string(digit)+code)
		}
	}
	return order
}

func roundOrder(l impl.Lock) []string {
	var order []string
	for _, number := range codesOf(l) {
		code := number[:1]
		for wheel := 1; wheel < l.Wheels; wheel++ {
			less := int(number[wheel]) - int(number[wheel-1])
			if less < 0 {
				less += l.Digits
			}
			code += digitsUsed(l)[less:][:1]
		}
		order = append(order, code)
	}
	return order
}

// turnTo returns the first turn that leads from one code to the other one, if there is one.
func turnTo(l impl.Lock, from string, to string) (impl.Turn, bool) {
	for _, turn := range turnsOf(l) {
		if turned(l, from, turn) == to {
			return turn, true
		}
	}
	return impl.Turn{}, false
}

func isAnyOrder(l impl.Lock, list []string) bool {
	if len(list) > mostInOrder {
		return false
	}
	for i, code := range list {
		if !slices.Contains(codesOf(l), code) || slices.Contains(list[:i], code) {
			return false
		}
		if i > 0 {
			if _, ok := turnTo(l, list[i-1], code); !ok {
				return false
			}
		}
	}
	return true
}

func isAnyWhole(l impl.Lock, list []string) bool {
	return isAnyOrder(l, list) && len(list) == codesCounted(l)
}

func isAnyClosed(l impl.Lock, list []string) bool {
	if !isAnyWhole(l, list) {
		return false
	}
	_, ok := turnTo(l, list[len(list)-1], list[0])
	return ok
}

// listsOf returns all lists of so many of some texts, each as often as may be.
func listsOf(texts []string, length int) [][]string {
	lists := [][]string{nil}
	for range length {
		var longer [][]string
		for _, list := range lists {
			for _, text := range texts {
				longer = append(longer, append(slices.Clone(list), text))
			}
		}
		lists = longer
	}
	return lists
}

// exchanges returns all lists of just these texts, which are different ones in order: the lists are in order, too.
func exchanges(texts []string) [][]string {
	if len(texts) == 0 {
		return [][]string{nil}
	}
	var lists [][]string
	for i, text := range texts {
		for _, behind := range exchanges(slices.Concat(texts[:i], texts[i+1:])) {
			lists = append(lists, append([]string{text}, behind...))
		}
	}
	return lists
}

// wholeFromZeros returns all whole orders from the code of zeros on, in order.
func wholeFromZeros(l impl.Lock) [][]string {
	codes := codesOf(l)
	var orders [][]string
	for _, behind := range exchanges(codes[1:]) {
		if order := append([]string{codes[0]}, behind...); isAnyWhole(l, order) {
			orders = append(orders, order)
		}
	}
	return orders
}

// sameKinds checks what a list of any texts is said to be, and its turns.
func sameKinds(t *testing.T, what string, l impl.Lock, list []string, order bool, whole bool, closed bool) {
	t.Helper()
	is, ok := impl.IsTurnOrder(l, list)
	same(t, "IsTurnOrder "+what, is, ok, order)
	is, ok = impl.IsWholeOrder(l, list)
	same(t, "IsWholeOrder "+what, is, ok, whole)
	is, ok = impl.IsClosedOrder(l, list)
	same(t, "IsClosedOrder "+what, is, ok, closed)
	turns, ok := impl.TurnsOfOrder(l, list)
	if !order {
		failsList(t, "TurnsOfOrder "+what, turns, ok)
		return
	}
	var want []impl.Turn
	for i := 1; i < len(list); i++ {
		turn, _ := turnTo(l, list[i-1], list[i])
		want = append(want, turn)
	}
	sameList(t, "TurnsOfOrder "+what, turns, ok, want)
}

// failsWithRank calls all functions that require a rank, and expects each one to fail.
func failsWithRank(t *testing.T, what string, l impl.Lock, rank int) {
	t.Helper()
	code, ok := impl.ForthCode(l, rank)
	fails(t, "ForthCode "+what, code, ok)
	code, ok = impl.RoundCode(l, rank)
	fails(t, "RoundCode "+what, code, ok)
	turn, ok := impl.TurnInForth(l, rank)
	fails(t, "TurnInForth "+what, turn, ok)
	turn, ok = impl.TurnInRound(l, rank)
	fails(t, "TurnInRound "+what, turn, ok)
	for _, count := range []int{0, 1, impl.MaxPart} {
		failsWithPart(t, what, l, rank, count)
	}
}

func failsWithPart(t *testing.T, what string, l impl.Lock, rank int, count int) {
	t.Helper()
	codes, ok := impl.ForthPart(l, rank, count)
	failsList(t, "ForthPart "+what, codes, ok)
	codes, ok = impl.RoundPart(l, rank, count)
	failsList(t, "RoundPart "+what, codes, ok)
}

// failsWithManyCodes calls all functions that take locks of at most MaxOrdered codes, and expects each one to fail.
func failsWithManyCodes(t *testing.T, what string, l impl.Lock) {
	t.Helper()
	codes, ok := impl.FirstWhole(l)
	failsList(t, "FirstWhole "+what, codes, ok)
	n, ok := impl.CountWhole(l)
	fails(t, "CountWhole "+what, n, ok)
	n, ok = impl.CountClosed(l)
	fails(t, "CountClosed "+what, n, ok)
}
