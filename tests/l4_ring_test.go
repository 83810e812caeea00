package tests

import (
	"fmt"
	"slices"
	"strings"
	"testing"

	"loop.example/g01304/impl"
)

// Promise 4: rings meet each code just once, and opening texts open all codes.

func TestPromise4Example(t *testing.T) {
	l := lockOf(2, 3)
	s, ok := impl.LeastRing(l)
	same(t, "LeastRing", s, ok, "001021122")
	words, ok := impl.LeastWords(l)
	sameList(t, "LeastWords", words, ok, []string{"0", "01", "02", "1", "12", "2"})
	n, ok := impl.PlaceInRing(l, "20")
	same(t, "PlaceInRing", n, ok, 8)
	n, ok = impl.StepsToOpen(l, "001021122", "10")
	same(t, "StepsToOpen", n, ok, 4)
	l = lockOf(3, 2)
	s, ok = impl.LeastRing(l)
	same(t, "LeastRing", s, ok, "00010111")
	n, ok = impl.CountRings(l)
	same(t, "CountRings", n, ok, 2)
	s, ok = impl.OpeningText(l)
	same(t, "OpeningText", s, ok, "0001011100")
}

func TestPromise4Limits(t *testing.T) {
	same(t, "MaxRing", impl.MaxRing, true, 1000)
	same(t, "MaxOpening", impl.MaxOpening, true, 1500)
}

func TestPromise4LeastAndGreatestRings(t *testing.T) {
	for _, l := range ringLocks() {
		what := fmt.Sprint(l)
		least, ok := impl.LeastRing(l)
		same(t, "LeastRing "+what, least, ok, greedyRing(l, digitsUsed(l)))
		same(t, "LeastRing is a ring "+what, isRound(l, least), true, true)
		greatest, ok := impl.GreatestRing(l)
		same(t, "GreatestRing "+what, greatest, ok, greedyRing(l, reversed(digitsUsed(l))))
		same(t, "GreatestRing is a ring "+what, isRound(l, greatest), true, true)
		for _, s := range []string{least, greatest} {
			is, ok := impl.IsRing(l, s)
			same(t, "IsRing "+what, is, ok, true)
		}
	}
}

func TestPromise4LeastAndGreatestOfAllRings(t *testing.T) {
	for _, l := range []impl.Lock{lockOf(1, 2), lockOf(1, 3), lockOf(1, 6), lockOf(2, 2), lockOf(2, 3), lockOf(3, 2), lockOf(4, 2)} {
		what := fmt.Sprint(l)
		rings := ringsWith(l, "")
		s, ok := impl.LeastRing(l)
		same(t, "LeastRing "+what, s, ok, rings[0])
		s, ok = impl.GreatestRing(l)
		same(t, "GreatestRing "+what, s, ok, rings[len(rings)-1])
		n, ok := impl.CountRings(l)
		same(t, "CountRings "+what, n*len(rings[0]), ok, len(rings))
	}
}

// All texts of as many digits are tried, and those of one more and one less.
func TestPromise4RingsAmongAllTexts(t *testing.T) {
	for _, l := range []impl.Lock{lockOf(1, 2), lockOf(1, 3), lockOf(1, 4), lockOf(2, 2), lockOf(2, 3), lockOf(3, 2), lockOf(4, 2)} {
		length := len(codesOf(l))
		for _, s := range codesOf(lockOf(length, l.Digits)) {
			is, ok := impl.IsRing(l, s)
			same(t, fmt.Sprint("IsRing ", l, s), is, ok, isRound(l, s))
			if length < 10 {
				for _, other := range []string{s + "0", s + s[:1], s[1:]} {
					is, ok = impl.IsRing(l, other)
					same(t, fmt.Sprint("IsRing ", l, other), is, ok, false)
				}
			}
		}
	}
}

// Each ring is near texts that are none: two digits exchanged, one digit another one, one left out and one put in.
func TestPromise4TextsNearRings(t *testing.T) {
	for _, l := range ringLocks() {
		ring, _ := impl.LeastRing(l)
		for i := 0; i < len(ring); i += 1 + len(ring)/9 {
			k := (i*7 + 3) % len(ring)
			low, high := min(i, k), max(i, k)
			exchanged := ring[:low]
			if low != high {
				exchanged += ring[high:high+1] + ring[low+1:high] + ring[low:low+1]
			}
			exchanged += ring[len(exchanged):]
			for _, s := range []string{exchanged, ring[:i] + "1" + ring[i+1:], ring[:i] + ring[i+1:] + "1", ring[:i] + "0" + ring[i:len(ring)-1]} {
				is, ok := impl.IsRing(l, s)
				same(t, fmt.Sprint("IsRing ", l, s), is, ok, isRound(l, s))
				if !isRound(l, s) {
					failsWithRing(t, fmt.Sprint(l, s), l, s)
				}
			}
		}
	}
}

func TestPromise4CodesAndPlaces(t *testing.T) {
	for _, l := range ringLocks() {
		what := fmt.Sprint(l)
		least, _ := impl.LeastRing(l)
		for place, code := range metAround(l, least) {
			n, ok := impl.PlaceInRing(l, code)
			same(t, "PlaceInRing "+what+code, n, ok, place)
			got, ok := impl.CodeAtPlace(l, place)
			same(t, fmt.Sprint("CodeAtPlace ", l, place), got, ok, code)
		}
		greatest, _ := impl.GreatestRing(l)
		for _, s := range []string{least, greatest} {
			codes, ok := impl.CodesOfRing(l, s)
			sameList(t, "CodesOfRing "+what, codes, ok, metAround(l, s))
		}
		n, ok := impl.PlaceInRing(l, strings.Repeat("0", l.Wheels))
		same(t, "PlaceInRing of zeros "+what, n, ok, 0)
	}
}

// sameRing checks that a function returns a text that is a ring, too.
func sameRing(t *testing.T, what string, l impl.Lock, got string, ok bool, want string) {
	t.Helper()
	same(t, what, got, ok, want)
	is, ok := impl.IsRing(l, got)
	same(t, "IsRing of "+what, is, ok, true)
	same(t, "codes around of "+what, isRound(l, got), true, true)
}

func TestPromise4RingsOfRings(t *testing.T) {
	for _, l := range ringLocks() {
		least, _ := impl.LeastRing(l)
		greatest, _ := impl.GreatestRing(l)
		for _, s := range []string{least, greatest} {
			what := fmt.Sprint(l, s[:l.Digits])
			for by := 0; by < len(s); by += 1 + len(s)/7 {
				turned, ok := impl.TurnedRing(l, s, by)
				sameRing(t, fmt.Sprint("TurnedRing ", what, by), l, turned, ok, (s + s)[by:by+len(s)])
				codes, ok := impl.CodesOfRing(l, turned)
				sameList(t, fmt.Sprint("CodesOfRing ", what, by), codes, ok, metAround(l, turned))
			}
			last, ok := impl.TurnedRing(l, s, len(s)-1)
			sameRing(t, "TurnedRing to the last place "+what, l, last, ok, s[len(s)-1:]+s[:len(s)-1])
			back, ok := impl.BackRing(l, s)
			sameRing(t, "BackRing "+what, l, back, ok, reversed(s))
			for by := range l.Digits {
				around := digitsUsed(l)[by:] + digitsUsed(l)[:by]
				want := ""
				for _, digit := range s {
					want += around[digit-'0':][:1]
				}
				raised, ok := impl.RaisedRing(l, s, by)
				sameRing(t, fmt.Sprint("RaisedRing ", what, by), l, raised, ok, want)
			}
		}
	}
}

func TestPromise4TurnedAndRaisedByNothing(t *testing.T) {
	for _, l := range ringLocks() {
		ring, _ := impl.LeastRing(l)
		s, ok := impl.TurnedRing(l, ring, 0)
		same(t, fmt.Sprint("TurnedRing ", l), s, ok, ring)
		s, ok = impl.RaisedRing(l, ring, 0)
		same(t, fmt.Sprint("RaisedRing ", l), s, ok, ring)
		code, ok := impl.CodeAtPlace(l, 0)
		same(t, fmt.Sprint("CodeAtPlace ", l), code, ok, strings.Repeat("0", l.Wheels))
	}
}

// Turned ones of each other have the code of zeros at other places, so that those that begin with it are counted.
func TestPromise4RingsCounted(t *testing.T) {
	locks := []impl.Lock{
		lockOf(1, 2), lockOf(1, 3), lockOf(1, 4), lockOf(1, 7), lockOf(2, 2), lockOf(2, 3), lockOf(2, 4), lockOf(3, 2), lockOf(4, 2), lockOf(5, 2),
	}
	for _, l := range locks {
		n, ok := impl.CountRings(l)
		same(t, fmt.Sprint("CountRings ", l), n, ok, len(ringsWith(l, strings.Repeat("0", l.Wheels))))
	}
}

func TestPromise4RingsUpToTheLimit(t *testing.T) {
	known := map[impl.Lock]int{
		lockOf(1, 8): 5040, lockOf(1, 9): 40320, lockOf(1, 10): 362880, lockOf(5, 2): 2048, lockOf(6, 2): 67108864,
		lockOf(3, 3): 373248, lockOf(2, 5): 995328000,
	}
	for l, want := range known {
		n, ok := impl.CountRings(l)
		same(t, fmt.Sprint("CountRings ", l), n, ok, want)
	}
	told := 0
	for _, l := range ringLocks() {
		n, ok := impl.CountRings(l)
		if ok {
			told++
			continue
		}
		fails(t, fmt.Sprint("CountRings ", l), n, ok)
	}
	// 9 locks of one wheel, 4 of two, 2 of three and the ones of 4, 5 and 6 wheels with two digits.
	same(t, "locks whose rings are counted", told, true, 18)
	// There are 3869835264000000 rings of two wheels with six digits.
	for _, l := range []impl.Lock{lockOf(2, 6), lockOf(2, 10), lockOf(3, 4), lockOf(3, 10), lockOf(4, 3), lockOf(4, 5), lockOf(5, 3), lockOf(6, 3)} {
		n, ok := impl.CountRings(l)
		fails(t, fmt.Sprint("CountRings ", l), n, ok)
	}
}

func TestPromise4LeastWords(t *testing.T) {
	for _, l := range ringLocks() {
		var want []string
		for length := 1; length <= l.Wheels; length++ {
			if l.Wheels%length == 0 {
				want = append(want, leastWordsOf(length, l.Digits)...)
			}
		}
		slices.Sort(want)
		words, ok := impl.LeastWords(l)
		sameList(t, fmt.Sprint("LeastWords ", l), words, ok, want)
		ring, ok := impl.LeastRing(l)
		same(t, fmt.Sprint("LeastRing of words ", l), ring, ok, strings.Join(want, ""))
	}
}

func TestPromise4LeastWordsCounted(t *testing.T) {
	for _, l := range ringLocks() {
		for length := 1; length <= 12; length++ {
			texts := 1
			for range length {
				texts *= l.Digits
			}
			n, ok := impl.CountLeastWords(l, length)
			if texts <= 5000 {
				same(t, fmt.Sprint("CountLeastWords ", l, length), n, ok, len(leastWordsOf(length, l.Digits)))
			}
			one, _ := impl.CountLeastWords(lockOf(1, l.Digits), length)
			same(t, fmt.Sprint("CountLeastWords ", l, length), n, ok, one)
		}
	}
}

// Texts of 12 digits that are one of 6 or one of 4 told again are turned ones of no least word of 12: those of 2 are among both.
func TestPromise4LongLeastWordsCounted(t *testing.T) {
	binary := []int{2, 1, 2, 3, 6, 9, 18, 30, 56, 99, 186, 335}
	decimal := []int{10, 45, 330, 2475, 19998, 166485, 1428570, 12498750, 111111000, 999989991, 9090909090, 83333249175}
	for length := 1; length <= 12; length++ {
		n, ok := impl.CountLeastWords(lockOf(6, 2), length)
		same(t, fmt.Sprint("CountLeastWords of two digits ", length), n, ok, binary[length-1])
		n, ok = impl.CountLeastWords(lockOf(1, 10), length)
		same(t, fmt.Sprint("CountLeastWords of ten digits ", length), n, ok, decimal[length-1])
	}
	for digits := 2; digits <= 10; digits++ {
		power := func(exponent int) int {
			product := 1
			for range exponent {
				product *= digits
			}
			return product
		}
		n, ok := impl.CountLeastWords(lockOf(3, digits), 12)
		same(t, fmt.Sprint("CountLeastWords of 12 of ", digits), n*12, ok, power(12)-power(6)-power(4)+power(2))
		n, ok = impl.CountLeastWords(lockOf(3, digits), 11)
		same(t, fmt.Sprint("CountLeastWords of 11 of ", digits), n*11, ok, power(11)-power(1))
	}
}

func TestPromise4OpeningTexts(t *testing.T) {
	for _, l := range ringLocks() {
		what := fmt.Sprint(l)
		ring, _ := impl.LeastRing(l)
		text, ok := impl.OpeningText(l)
		same(t, "OpeningText "+what, text, ok, ring+ring[:l.Wheels-1])
		n, ok := impl.CountOpened(l, text)
		same(t, "CountOpened "+what, n, ok, len(codesOf(l)))
		code, ok := impl.FirstMissed(l, text)
		fails(t, "FirstMissed "+what, code, ok)
		for place, code := range metAround(l, ring) {
			n, ok := impl.StepsToOpen(l, text, code)
			same(t, "StepsToOpen "+what+code, n, ok, place+l.Wheels)
		}
		// One digit less opens all codes but the last one.
		last := text[len(text)-l.Wheels:]
		n, ok = impl.CountOpened(l, text[:len(text)-1])
		same(t, "CountOpened of less "+what, n, ok, len(codesOf(l))-1)
		code, ok = impl.FirstMissed(l, text[:len(text)-1])
		same(t, "FirstMissed of less "+what, code, ok, last)
		n, ok = impl.StepsToOpen(l, text[:len(text)-1], last)
		fails(t, "StepsToOpen of less "+what, n, ok)
	}
}

func TestPromise4TextsOfDigits(t *testing.T) {
	for _, l := range ringLocks() {
		codes := codesOf(l)
		for _, text := range textsOfDigits(l) {
			what := fmt.Sprintf("%v %d %.20s", l, len(text), text)
			opened, missed := 0, ""
			for i, code := range codes {
				steps := stepsIn(text, code)
				if steps > 0 {
					opened++
				} else if missed == "" {
					missed = code
				}
				if i%(1+len(codes)/20) > 0 { // some codes of large locks are enough
					continue
				}
				n, ok := impl.StepsToOpen(l, text, code)
				if steps == 0 {
					fails(t, "StepsToOpen "+what+" "+code, n, ok)
				} else {
					same(t, "StepsToOpen "+what+" "+code, n, ok, steps)
				}
			}
			n, ok := impl.CountOpened(l, text)
			same(t, "CountOpened "+what, n, ok, opened)
			code, ok := impl.FirstMissed(l, text)
			if missed == "" {
				fails(t, "FirstMissed "+what, code, ok)
			} else {
				same(t, "FirstMissed "+what, code, ok, missed)
			}
		}
	}
}

func TestPromise4TextsAreNotReadAround(t *testing.T) {
	l, text := lockOf(2, 3), "001021122"
	n, ok := impl.CountOpened(l, text)
	same(t, "CountOpened", n, ok, 8)
	code, ok := impl.FirstMissed(l, text)
	same(t, "FirstMissed", code, ok, "20")
	n, ok = impl.StepsToOpen(l, text, "20")
	fails(t, "StepsToOpen", n, ok)
	n, ok = impl.StepsToOpen(l, text, "22")
	same(t, "StepsToOpen at the end", n, ok, 9)
	n, ok = impl.StepsToOpen(l, text, "00")
	same(t, "StepsToOpen at once", n, ok, 2)
	codes, ok := impl.CodesOfRing(l, text)
	sameList(t, "CodesOfRing", codes, ok, []string{"00", "01", "10", "02", "21", "11", "12", "22", "20"})
}

func TestPromise4EmptyText(t *testing.T) {
	for _, l := range ringLocks() {
		what, zeros := fmt.Sprint(l), strings.Repeat("0", l.Wheels)
		n, ok := impl.CountOpened(l, "")
		same(t, "CountOpened "+what, n, ok, 0)
		code, ok := impl.FirstMissed(l, "")
		same(t, "FirstMissed "+what, code, ok, zeros)
		n, ok = impl.StepsToOpen(l, "", zeros)
		fails(t, "StepsToOpen "+what, n, ok)
		is, ok := impl.IsRing(l, "")
		same(t, "IsRing "+what, is, ok, false)
	}
}

func TestPromise4OneWheel(t *testing.T) {
	for digits := 2; digits <= 10; digits++ {
		l, all := lockOf(1, digits), "0123456789"[:digits]
		what := fmt.Sprint(l)
		s, ok := impl.LeastRing(l)
		same(t, "LeastRing "+what, s, ok, all)
		s, ok = impl.GreatestRing(l)
		same(t, "GreatestRing "+what, s, ok, reversed(all))
		s, ok = impl.OpeningText(l)
		same(t, "OpeningText "+what, s, ok, all)
		words, ok := impl.LeastWords(l)
		sameList(t, "LeastWords "+what, words, ok, codesOf(l))
		codes, ok := impl.CodesOfRing(l, reversed(all))
		slices.Reverse(codes)
		sameList(t, "CodesOfRing "+what, codes, ok, codesOf(l))
		is, ok := impl.IsRing(l, all[1:]+all[:1])
		same(t, "IsRing "+what, is, ok, true)
		is, ok = impl.IsRing(l, all[1:]+all[1:2])
		same(t, "IsRing with a digit twice "+what, is, ok, false)
		last, ok := impl.CodeAtPlace(l, digits-1)
		same(t, "CodeAtPlace "+what, last, ok, all[digits-1:])
		n, ok := impl.StepsToOpen(l, all, last)
		same(t, "StepsToOpen "+what, n, ok, digits)
		n, ok = impl.CountLeastWords(l, 1)
		same(t, "CountLeastWords "+what, n, ok, digits)
	}
	n, ok := impl.CountRings(lockOf(1, 2))
	same(t, "CountRings", n, ok, 1)
}

func TestPromise4TwoDigits(t *testing.T) {
	for wheels, want := range map[int]string{1: "01", 2: "0011", 3: "00010111", 4: "0000100110101111", 5: "00000100011001010011101011011111"} {
		l := lockOf(wheels, 2)
		s, ok := impl.LeastRing(l)
		same(t, fmt.Sprint("LeastRing ", l), s, ok, want)
		other := strings.NewReplacer("0", "1", "1", "0").Replace(want)
		s, ok = impl.GreatestRing(l)
		same(t, fmt.Sprint("GreatestRing ", l), s, ok, other)
		s, ok = impl.RaisedRing(l, want, 1)
		same(t, fmt.Sprint("RaisedRing ", l), s, ok, other)
	}
	words, ok := impl.LeastWords(lockOf(4, 2))
	sameList(t, "LeastWords", words, ok, []string{"0", "0001", "0011", "01", "0111", "1"})
	back, ok := impl.BackRing(lockOf(3, 2), "00010111")
	same(t, "BackRing", back, ok, "11101000")
	n, ok := impl.CountRings(lockOf(2, 2))
	same(t, "CountRings", n, ok, 1)
}

func TestPromise4CodesMetAroundTheEnd(t *testing.T) {
	l := lockOf(6, 2)
	ring, _ := impl.LeastRing(l)
	for place, code := range map[int]string{59: "111110", 60: "111100", 61: "111000", 62: "110000", 63: "100000"} {
		n, ok := impl.PlaceInRing(l, code)
		same(t, "PlaceInRing "+code, n, ok, place)
		got, ok := impl.CodeAtPlace(l, place)
		same(t, fmt.Sprint("CodeAtPlace ", place), got, ok, code)
		codes, ok := impl.CodesOfRing(l, ring)
		same(t, fmt.Sprint("CodesOfRing ", place), codes[place], ok, code)
		n, ok = impl.StepsToOpen(l, ring, code)
		if place > len(ring)-l.Wheels {
			fails(t, "StepsToOpen "+code, n, ok)
		} else {
			same(t, "StepsToOpen "+code, n, ok, place+l.Wheels)
		}
	}
}

func TestPromise4MostCodes(t *testing.T) {
	l := lockOf(3, 10)
	ring, ok := impl.LeastRing(l)
	same(t, "LeastRing", len(ring), ok, impl.MaxRing)
	same(t, "LeastRing", ring[:30], ok, "000100200300400500600700800901")
	text, ok := impl.OpeningText(l)
	same(t, "OpeningText", len(text), ok, impl.MaxRing+2)
	code, ok := impl.CodeAtPlace(l, impl.MaxRing-1)
	same(t, "CodeAtPlace", code, ok, "900")
	last, ok := impl.TurnedRing(l, ring, impl.MaxRing-1)
	same(t, "TurnedRing", last, ok, "9"+ring[:impl.MaxRing-1])
	s, ok := impl.RaisedRing(l, ring, 9)
	same(t, "RaisedRing", s[:6], ok, "999099")
	longest := text + strings.Repeat("7", impl.MaxOpening-len(text))
	n, ok := impl.CountOpened(l, longest)
	same(t, "CountOpened", n, ok, impl.MaxRing)
	n, ok = impl.StepsToOpen(l, strings.Repeat("7", impl.MaxOpening-1)+"8", "778")
	same(t, "StepsToOpen", n, ok, impl.MaxOpening)
}
