package tests

import (
	"fmt"
	"math"
	"slices"
	"strings"
	"testing"

	"loop.example/g01304/impl"
)

// Promise 11: every function accepts all arguments without panicking and modifies none of them.

// failsWithRingLock calls all functions of chapter 4 with a lock that they do not take, and expects each one to fail.
func failsWithRingLock(t *testing.T, l impl.Lock, s string) {
	t.Helper()
	what := fmt.Sprintf("%v %.20q", l, s)
	text, ok := impl.LeastRing(l)
	fails(t, "LeastRing "+what, text, ok)
	text, ok = impl.GreatestRing(l)
	fails(t, "GreatestRing "+what, text, ok)
	is, ok := impl.IsRing(l, s)
	fails(t, "IsRing "+what, is, ok)
	failsWithRing(t, what, l, s)
	n, ok := impl.PlaceInRing(l, s)
	fails(t, "PlaceInRing "+what, n, ok)
	text, ok = impl.CodeAtPlace(l, 0)
	fails(t, "CodeAtPlace "+what, text, ok)
	n, ok = impl.CountRings(l)
	fails(t, "CountRings "+what, n, ok)
	words, ok := impl.LeastWords(l)
	failsList(t, "LeastWords "+what, words, ok)
	for _, length := range []int{1, 2, 12} {
		n, ok = impl.CountLeastWords(l, length)
		fails(t, "CountLeastWords "+what, n, ok)
	}
	text, ok = impl.OpeningText(l)
	fails(t, "OpeningText "+what, text, ok)
	failsWithText(t, what, l, s, s)
}

func TestPromise11LocksWithoutRings(t *testing.T) {
	for _, l := range badSearched() {
		zeros := strings.Repeat("0", max(0, min(l.Wheels, 10)))
		for _, s := range []string{"", "0", "01", "10", zeros, "0" + zeros, "0011", "00010111"} {
			failsWithRingLock(t, l, s)
		}
	}
	// The rings of these would be short enough, if more codes were allowed.
	for _, l := range []impl.Lock{lockOf(5, 4), lockOf(4, 6)} {
		failsWithRingLock(t, l, greedyRing(l, digitsUsed(l)))
	}
}

// None of these texts has digits 0, 1 and 2 alone: some runes end in the byte of a digit.
func textsWithOtherBytes() []string {
	return []string{
		"3", "9", "/", ":", " ", "-1", "+1", "0.1", "0 1", "01\n", "\n01", "00102112\x00", "\x0000102112", "00102112\xff", "\xff", "0010211/2", "0010211:2",
		"00102113", "001021123", "00102112\u0132", "\u0130\u0131\u0132", "0\u0131", "\u0661\u0662", "\uff10\uff11", "\U00010030", "001021122 ",
		"00102112a", "é01021122", "\u0130010211", "001021\u0132" + "2", "\xf0\x9f\x94",
	}
}

func TestPromise11TextsWithOtherBytes(t *testing.T) {
	l := lockOf(2, 3)
	for _, s := range textsWithOtherBytes() {
		what := fmt.Sprintf("%q", s)
		failsWithText(t, what, l, s, "01")
		failsWithText(t, what+" beside an opened code", l, "0011"+s, "01")
		failsWithText(t, what+" behind most digits", l, strings.Repeat("0", impl.MaxOpening-len(s))+s, "00")
		is, ok := impl.IsRing(l, s)
		same(t, "IsRing "+what, is, ok, false)
		failsWithRing(t, what, l, s)
	}
}

func TestPromise11TextsThatAreNoRings(t *testing.T) {
	l := lockOf(2, 3)
	texts := []string{
		"", "0", "00", "012", "00102112", "0010211220", "0010211222", "001021121", "000000000", "222222222", "012012012", "001122012",
		"00112", "0011", "001021122001021122", "00010111", strings.Repeat("001021122", 100000), strings.Repeat("0", impl.MaxRing),
	}
	for _, s := range texts {
		what := fmt.Sprintf("%.20q", s)
		is, ok := impl.IsRing(l, s)
		same(t, "IsRing "+what, is, ok, false)
		failsWithRing(t, what, l, s)
	}
	// A ring of one lock is none of others.
	for _, other := range ringLocks() {
		ring, _ := impl.LeastRing(l)
		if other != l {
			is, ok := impl.IsRing(other, ring)
			same(t, fmt.Sprint("IsRing ", other), is, ok, isRound(other, ring))
			failsWithRing(t, fmt.Sprint(other), other, ring)
		}
	}
}

func TestPromise11TextsThatAreTooLong(t *testing.T) {
	for _, l := range []impl.Lock{lockOf(1, 2), lockOf(2, 3), lockOf(3, 10), lockOf(6, 3)} {
		zeros := strings.Repeat("0", l.Wheels)
		longest := strings.Repeat("0", impl.MaxOpening)
		n, ok := impl.CountOpened(l, longest)
		same(t, fmt.Sprint("CountOpened ", l), n, ok, 1)
		n, ok = impl.StepsToOpen(l, longest, zeros)
		same(t, fmt.Sprint("StepsToOpen ", l), n, ok, l.Wheels)
		code, ok := impl.FirstMissed(l, longest)
		same(t, fmt.Sprint("FirstMissed ", l), code, ok, zeros[1:]+"1")
		failsWithText(t, fmt.Sprint("one too many ", l), l, longest+"0", zeros)
		failsWithText(t, fmt.Sprint("far too many ", l), l, strings.Repeat(longest, 1000), zeros)
	}
}

func TestPromise11BadCodesOfRings(t *testing.T) {
	l := lockOf(3, 5)
	text, _ := impl.OpeningText(l)
	for _, code := range badCodes() {
		what := fmt.Sprintf("%.20q", code)
		n, ok := impl.PlaceInRing(l, code)
		fails(t, "PlaceInRing "+what, n, ok)
		n, ok = impl.StepsToOpen(l, text, code)
		fails(t, "StepsToOpen "+what, n, ok)
		n, ok = impl.StepsToOpen(l, "", code)
		fails(t, "StepsToOpen of no digits "+what, n, ok)
	}
	// These are met in the text, but are no codes.
	for _, part := range []string{"", "0", "00", "0001", text} {
		n, ok := impl.PlaceInRing(l, part)
		fails(t, "PlaceInRing "+part, n, ok)
		n, ok = impl.StepsToOpen(l, text, part)
		fails(t, "StepsToOpen "+part, n, ok)
	}
}

func TestPromise11PlacesAndTurnsOutOfRange(t *testing.T) {
	far := []int{-1, -2, math.MinInt, math.MinInt + 1, math.MaxInt, math.MaxInt - 1, 1 << 32, 1000000}
	for _, l := range ringLocks() {
		ring, _ := impl.LeastRing(l)
		for _, n := range append(slices.Clone(far), len(ring), len(ring)+1) {
			what := fmt.Sprint(l, n)
			s, ok := impl.CodeAtPlace(l, n)
			fails(t, "CodeAtPlace "+what, s, ok)
			s, ok = impl.TurnedRing(l, ring, n)
			fails(t, "TurnedRing "+what, s, ok)
		}
		for _, n := range append(slices.Clone(far), -l.Digits, l.Digits, l.Digits+1, 2*l.Digits) {
			s, ok := impl.RaisedRing(l, ring, n)
			fails(t, fmt.Sprint("RaisedRing ", l, n), s, ok)
		}
		for _, n := range append(slices.Clone(far), 0, 13, 24, 64) {
			count, ok := impl.CountLeastWords(l, n)
			fails(t, fmt.Sprint("CountLeastWords ", l, n), count, ok)
		}
	}
}

func TestPromise11CodesThatAreNotOpened(t *testing.T) {
	l := lockOf(3, 2)
	for text, code := range map[string]string{"": "000", "0": "000", "00": "000", "00101": "011", "0001011": "111", "1100011": "101", "00010111": "110"} {
		n, ok := impl.StepsToOpen(l, text, code)
		fails(t, "StepsToOpen "+text, n, ok)
	}
	for _, text := range []string{"0001011100", "1110001011", "00010111000101110", strings.Repeat("0001011100", 150)} {
		code, ok := impl.FirstMissed(l, text)
		fails(t, "FirstMissed "+text, code, ok)
		n, ok := impl.CountOpened(l, text)
		same(t, "CountOpened "+text, n, ok, 8)
	}
}

// callRings calls all functions of chapter 4, tells what they return, and spoils the lists.
func callRings(l impl.Lock, s string, n int, code string) string {
	var told []any
	tell := func(results ...any) { told = append(told, results...) }
	tellText := func(text string, ok bool) { tell(text, ok) }
	tellNumber := func(number int, ok bool) { tell(number, ok) }
	tellList := func(texts []string, ok bool) {
		tell(slices.Clone(texts), ok)
		spoilTexts(texts)
	}
	is, ok := impl.IsRing(l, s)
	tell(is, ok)
	tellText(impl.LeastRing(l))
	tellText(impl.GreatestRing(l))
	tellList(impl.CodesOfRing(l, s))
	tellNumber(impl.PlaceInRing(l, code))
	tellText(impl.CodeAtPlace(l, n))
	tellText(impl.TurnedRing(l, s, n))
	tellText(impl.BackRing(l, s))
	tellText(impl.RaisedRing(l, s, n))
	tellNumber(impl.CountRings(l))
	tellList(impl.LeastWords(l))
	tellNumber(impl.CountLeastWords(l, n))
	tellText(impl.OpeningText(l))
	tellNumber(impl.CountOpened(l, s))
	tellText(impl.FirstMissed(l, s))
	tellNumber(impl.StepsToOpen(l, s, code))
	return fmt.Sprint(told...)
}

func TestPromise11RingsAreNew(t *testing.T) {
	for _, l := range []impl.Lock{lockOf(1, 10), lockOf(2, 3), lockOf(4, 5), lockOf(6, 2)} {
		ring, _ := impl.GreatestRing(l)
		before, code := strings.Clone(ring), strings.Repeat("1", l.Wheels)
		first := callRings(l, ring, 1, code)
		for range 3 {
			same(t, fmt.Sprint("the same calls again ", l), callRings(l, ring, 1, code), true, first)
		}
		same(t, fmt.Sprint("the ring ", l), ring, true, before)
	}
}

func TestPromise11NothingPanicsWithRings(t *testing.T) {
	locks := append(badSearched(), lockOf(1, 2), lockOf(2, 3), lockOf(3, 10), lockOf(6, 3))
	texts := append(textsWithOtherBytes(), "", "0", "01", "10", "001021122", "201001122", strings.Repeat("0", 1501), strings.Repeat("\xff", 1000))
	for _, l := range locks {
		for i, s := range texts {
			for _, n := range []int{math.MinInt, -1, 0, 1, 2, 9, 12, 13, 1000, math.MaxInt} {
				callRings(l, s, n, texts[(i*5+1)%len(texts)])
			}
		}
	}
}
