package tests

import (
	"slices"
	"strings"
	"testing"

	"loop.example/g01304/impl"
)

// The helpers try all texts, or add the first digit that meets a new code: they know nothing of least words and of theorems.

// ringLocks returns all locks with at most MaxRing codes.
func ringLocks() []impl.Lock {
	var locks []impl.Lock
	for wheels, most := range map[int]int{1: 10, 2: 10, 3: 10, 4: 5, 5: 3, 6: 3} {
		for digits := 2; digits <= most; digits++ {
			locks = append(locks, lockOf(wheels, digits))
		}
	}
	return locks
}

func digitsUsed(l impl.Lock) string { return "0123456789"[:l.Digits] }

func reversed(s string) string {
	letters := []byte(s)
	slices.Reverse(letters)
	return string(letters)
}

// metAround returns the codes that are met in a text that is read around, in the order of their places.
func metAround(l impl.Lock, s string) []string {
	var met []string
	for place := range len(s) {
		code := ""
		for wheel := range l.Wheels {
			code += s[(place+wheel)%len(s):][:1]
		}
		met = append(met, code)
	}
	return met
}

// isRound tells whether each code is met just once in a text that is read around.
func isRound(l impl.Lock, s string) bool {
	met := metAround(l, s)
	slices.Sort(met)
	return slices.Equal(met, codesOf(l))
}

// greedyRing begins behind digits that are all the last one of an order, and adds the first digit of the order that meets a new code.
func greedyRing(l impl.Lock, order string) string {
	text := strings.Repeat(order[len(order)-1:], l.Wheels-1)
	met := map[string]bool{}
	for range codesOf(l) {
		for _, digit := range order {
			code := text[len(text)-l.Wheels+1:] + string(digit)
			if !met[code] {
				met[code] = true
				text += string(digit)
				break
			}
		}
	}
	return text[l.Wheels-1:]
}

// ringsWith returns all rings that begin with a text, in order.
func ringsWith(l impl.Lock, start string) []string {
	length := len(codesOf(l))
	var rings []string
	met := map[string]bool{}
	var add func(text string)
	add = func(text string) {
		if len(text) == length {
			if isRound(l, text) {
				rings = append(rings, text)
			}
			return
		}
		for _, digit := range digitsUsed(l) {
			longer := text + string(digit)
			code := longer[max(0, len(longer)-l.Wheels):]
			if len(code) < l.Wheels || !met[code] {
				met[code] = true
				add(longer)
				met[code] = false
			}
		}
	}
	if len(start) == l.Wheels {
		met[start] = true
	}
	add(start)
	return rings
}

// isLeastWord compares a word with its turned ones, as the document tells least words.
func isLeastWord(word string) bool {
	for i := 1; i < len(word); i++ {
		if word >= word[i:]+word[:i] {
			return false
		}
	}
	return true
}

func leastWordsOf(length int, digits int) []string {
	return slices.DeleteFunc(codesOf(lockOf(length, digits)), func(word string) bool { return !isLeastWord(word) })
}

// stepsIn returns how many digits are read up to the end of a code where it is met first, or 0.
func stepsIn(text string, code string) int {
	for steps := len(code); steps <= len(text); steps++ {
		if text[steps-len(code):steps] == code {
			return steps
		}
	}
	return 0
}

// textsOfDigits returns texts of a lock, short and long ones, with much and with little that is told again.
func textsOfDigits(l impl.Lock) []string {
	digits := digitsUsed(l)
	texts := []string{"", digits, reversed(digits), strings.Repeat("0", impl.MaxOpening), strings.Repeat(digits, impl.MaxOpening/l.Digits)}
	for _, length := range []int{1, 2, 3, 5, 6, 7, 20, 100, 500, impl.MaxOpening - 1, impl.MaxOpening} {
		for seed := range 3 {
			text, z := "", seed+length
			for range length {
				z = (z*173 + 2633) % 10007
				text += digits[z%l.Digits:][:1]
			}
			texts = append(texts, text)
		}
	}
	return texts
}

// failsWithText calls all functions that require a text of digits, and expects each one to fail.
func failsWithText(t *testing.T, what string, l impl.Lock, text string, code string) {
	t.Helper()
	n, ok := impl.CountOpened(l, text)
	fails(t, "CountOpened "+what, n, ok)
	missed, ok := impl.FirstMissed(l, text)
	fails(t, "FirstMissed "+what, missed, ok)
	n, ok = impl.StepsToOpen(l, text, code)
	fails(t, "StepsToOpen "+what, n, ok)
}

// failsWithRing calls all functions that require a ring, and expects each one to fail.
func failsWithRing(t *testing.T, what string, l impl.Lock, s string) {
	t.Helper()
	codes, ok := impl.CodesOfRing(l, s)
	failsList(t, "CodesOfRing "+what, codes, ok)
	for _, by := range []int{0, 1} {
		text, ok := impl.TurnedRing(l, s, by)
		fails(t, "TurnedRing "+what, text, ok)
		text, ok = impl.RaisedRing(l, s, by)
		fails(t, "RaisedRing "+what, text, ok)
	}
	text, ok := impl.BackRing(l, s)
	fails(t, "BackRing "+what, text, ok)
}
