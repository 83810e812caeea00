package tests

import (
	"fmt"
	"math"
	"slices"
	"strings"
	"sync"
	"testing"

	"loop.example/g01304/impl"
)

// Promise 11: every function accepts all arguments without panicking and modifies none of them.

// These have no hidden codes: no locks, and those of too many codes.
func badPuzzled() []impl.Lock {
	return append(badLocks(), locksOver(mostPuzzled)...)
}

// These are numbers that no clue of 3 wheels with 5 digits has, whatever they tell.
func farNumbers() []int {
	return []int{math.MinInt, math.MinInt + 1, -1 << 62, -1 << 32, -256, -125, -2, -1, 125, 126, 127, 256, 1000, 1 << 31, 1 << 32, 1<<32 + 1, 1 << 62, math.MaxInt - 1, math.MaxInt}
}

// None of these is a clue of 3 wheels with 5 digits.
func badClues() []impl.Clue {
	bad := []impl.Clue{
		clueWith(-1, 0, 0), clueWith(5, 0, 0), clueWith(5, 2, 1), clueWith(6, 2, 0), clueWith(256, 0, 0), clueWith(1<<32, 0, 0), clueWith(1<<32+4, 2, 1),
		clueWith(0, 3, 0), clueWith(0, 4, 4), clueWith(0, 0, 5), clueWith(0, 2, 6), clueWith(0, 3, 5),
		clueWith(1, 61, 0), clueWith(1, 62, 0), clueWith(1, 0, 1), clueWith(1, 7, 1), clueWith(1, 60, 60), clueWith(1, 7, 7),
		clueWith(2, 0, 4), clueWith(2, 124, 4), clueWith(2, 7, 5), clueWith(3, 0, 61), clueWith(3, 124, 61), clueWith(3, 7, 62),
		clueWith(4, 0, 0), clueWith(4, 1, 0), clueWith(4, 10, 0), clueWith(4, 11, 5), clueWith(4, 0, -1), clueWith(4, 1, 1),
	}
	for divisor := 2; divisor <= 9; divisor++ {
		bad = append(bad, clueWith(4, divisor, divisor), clueWith(4, divisor, divisor+1), clueWith(4, divisor, 10), clueWith(4, -divisor, 0), clueWith(4, divisor, 1-divisor))
	}
	for _, number := range farNumbers() {
		for kind := range kindsOfClues {
			bad = append(bad, clueWith(kind, number, 0), clueWith(kind, 2, number), clueWith(kind, number, number))
		}
		bad = append(bad, clueWith(number, 0, 0), clueWith(number, 2, 1), clueWith(number, number, number))
	}
	return bad
}

func TestPromise11BadClues(t *testing.T) {
	for _, c := range badClues() {
		failsWithClue(t, lockOf(3, 5), c)
	}
}

// The clues around those that each lock has.
func TestPromise11CluesBesideThoseThatThereAre(t *testing.T) {
	for _, l := range locksUpTo(mostPuzzled) {
		last := codesCounted(l) - 1
		for _, c := range []impl.Clue{
			clueWith(0, -1, 0), clueWith(0, l.Wheels, 0), clueWith(0, 0, -1), clueWith(0, 0, l.Digits), clueWith(0, l.Wheels-1, l.Digits), clueWith(0, l.Wheels, l.Digits-1),
			clueWith(1, -1, 0), clueWith(1, 61, 0), clueWith(1, 0, -1), clueWith(1, 1, 1),
			clueWith(2, -1, 0), clueWith(2, last+1, 0), clueWith(2, last, -1), clueWith(2, last, l.Wheels+1), clueWith(2, 0, l.Wheels+1),
			clueWith(3, -1, 0), clueWith(3, last+1, 0), clueWith(3, last, -1), clueWith(3, last, 61), clueWith(3, 0, 61),
			clueWith(4, 1, 0), clueWith(4, 10, 0), clueWith(4, 2, 2), clueWith(4, 9, 9), clueWith(4, 2, -1), clueWith(4, 9, -1), clueWith(5, 2, 0), clueWith(-1, 2, 0),
		} {
			failsWithClue(t, l, c)
		}
		for _, c := range []impl.Clue{
			clueWith(0, 0, 0), clueWith(0, l.Wheels-1, l.Digits-1), clueWith(1, 0, 0), clueWith(1, 60, 0), clueWith(2, 0, 0), clueWith(2, last, l.Wheels),
			clueWith(3, 0, 0), clueWith(3, last, 60), clueWith(4, 2, 0), clueWith(4, 2, 1), clueWith(4, 9, 0), clueWith(4, 9, 8),
		} {
			same(t, fmt.Sprint("IsClue ", l, c), impl.IsClue(l, c), true, true)
		}
	}
}

func TestPromise11LocksWithoutPuzzles(t *testing.T) {
	for _, l := range badPuzzled() {
		zeros := strings.Repeat("0", max(0, min(l.Wheels, 10)))
		failsWithPuzzle(t, puzzleOf(l))
		for _, c := range []impl.Clue{{}, clueWith(0, 0, 1), clueWith(1, 0, 0), clueWith(1, 60, 0), clueWith(2, 0, 0), clueWith(2, 1, 1), clueWith(3, 0, 0), clueWith(4, 2, 1), clueWith(-1, -1, -1)} {
			failsWithClue(t, l, c)
		}
		for clues := range mostClues + 1 {
			for _, code := range []string{"", "0", "000", zeros} {
				failsToMake(t, l, code, clues, 0)
			}
		}
	}
}

func TestPromise11TooManyClues(t *testing.T) {
	for _, l := range locksUpTo(mostPuzzled) {
		for _, c := range []impl.Clue{clueWith(0, 0, 1), clueWith(1, 1, 0), clueWith(4, 2, 1), clueWith(9, 9, 9)} {
			for _, count := range []int{mostClues + 1, mostClues + 2, 2 * mostClues, 1000} {
				failsWithPuzzle(t, puzzleOf(l, slices.Repeat([]impl.Clue{c}, count)...))
			}
		}
	}
	failsWithPuzzle(t, puzzleOf(lockOf(3, 5), slices.Repeat([]impl.Clue{clueWith(0, 0, 1)}, 100000)...))
}

func TestPromise11BadCodesOfPuzzles(t *testing.T) {
	l := lockOf(3, 5)
	for _, code := range badCodes() {
		for _, c := range []impl.Clue{clueWith(0, 0, 0), clueWith(0, 2, 0), clueWith(1, 0, 0), clueWith(2, 0, 3), clueWith(3, 0, 0), clueWith(4, 2, 0)} {
			is, ok := impl.DoesFit(l, c, code)
			fails(t, fmt.Sprintf("DoesFit %v %.20q", c, code), is, ok)
		}
		for clues := range mostClues + 1 {
			for _, seed := range []int{0, 1, 7, mostSeed} {
				failsToMake(t, l, code, clues, seed)
			}
		}
	}
}

// Codes of other locks are none of this one, and neither are their clues.
func TestPromise11CodesAndCluesOfOtherLocks(t *testing.T) {
	locks := locksUpTo(mostPuzzled)
	for _, l := range locks {
		for _, other := range locks {
			code := strings.Repeat(string(rune('0'+other.Digits-1)), other.Wheels)
			want := l.Wheels == other.Wheels && l.Digits >= other.Digits
			fits, ok := impl.DoesFit(l, clueWith(1, 60, 0), code)
			same(t, fmt.Sprint("DoesFit ", l, code), ok, true, want)
			same(t, fmt.Sprint("DoesFit ", l, code), fits, true, false)
			p, ok := impl.MakePuzzle(l, code, 1, 0)
			same(t, fmt.Sprint("MakePuzzle ", l, code), ok, true, want)
			if !want {
				failsPuzzle(t, fmt.Sprint("MakePuzzle ", l, code), p, ok)
			}
			last := clueWith(2, codesCounted(other)-1, 0)
			same(t, fmt.Sprint("IsClue ", l, last), impl.IsClue(l, last), true, codesCounted(other) <= codesCounted(l))
		}
	}
}

func TestPromise11IndicesOfNoClues(t *testing.T) {
	for count := range mostClues + 1 {
		p := puzzleOf(lockOf(2, 5), slices.Repeat([]impl.Clue{clueWith(1, 7, 0)}, count)...)
		for _, k := range append(farNumbers(), count, count+1, 6, 7, -count-1) {
			fewer, ok := impl.DropClue(p, k)
			failsPuzzle(t, fmt.Sprint("DropClue ", p, k), fewer, ok)
		}
	}
}

func TestPromise11NumbersOfMakePuzzle(t *testing.T) {
	l := lockOf(2, 5)
	for _, bad := range append(farNumbers(), 7, 8, -6, 10) {
		for _, seed := range []int{0, 1, mostSeed} {
			failsToMake(t, l, "34", bad, seed)
		}
	}
	for _, bad := range []int{math.MinInt, math.MinInt + 1, -9999, -2, -1, 10000, 10001, 10006, 10007, 20000, 1 << 32, 1 << 62, math.MaxInt/173 + 1, math.MaxInt - 1, math.MaxInt} {
		for clues := range mostClues + 1 {
			failsToMake(t, l, "34", clues, bad)
		}
	}
}

func TestPromise11BadTextsOfPuzzles(t *testing.T) {
	bad := []string{
		"", ":", "x", "x:", "2x5", "2x5,", "2x5::", ":2x5:", "2x5:,", "2x5:.", "2x5:..", "2x5:0", "2x5:0.0", "2x5:0.0.", "2x5:.0.3", "2x5:0..3", "2x5:0.0.3.", "2x5:0.0.3.0", "2x5:.0.0.3",
		"2x5:0.0.3,", "2x5:,0.0.3", "2x5:0.0.3,,1.7.0", "2x5:0.0.3;1.7.0", "2x5:0.0.3:1.7.0", "2x5:0.0.3 1.7.0", "2x5:0.0.31.7.0", "2x5:0,0,3", "2x5;0.0.3", "2x5 0.0.3", "2x50.0.3", "25:0.0.3", "2X5:0.0.3", "2*5:0.0.3",
		" 2x5:0.0.3", "2x5:0.0.3 ", "2x5: 0.0.3", "2x5 :0.0.3", "2x5:0.0.3\n", "\n2x5:0.0.3", "2x5:0. 0.3", "2x5:0.0.3, 1.7.0", "2x5:\n",
		"02x5:0.0.3", "2x05:0.0.3", "+2x5:0.0.3", "2x+5:0.0.3", "-2x5:0.0.3", "2x5:00.0.3", "2x5:0.00.3", "2x5:0.0.03", "2x5:+0.0.3", "2x5:0.+0.3", "2x5:0.0.+3", "2x5:-0.0.3", "2x5:0.-0.3", "2x5:0.0.-3", "2x5:1.07.0", "2x5:1.7.00", "2x5:1.7.-0", "2x5:1.-7.0",
		"2x5:0x0.0.3", "2x5:0.0.0x3", "2x5:0.0.3e0", "2x5:0.0.a", "2x5:a.0.3", "2x5:1.1_0.0", "2x5:0.0.3\x00", "2x5:\x00", "2x5:\xff.0.3", "2x5:٠.0.3", "2x5:0.0.٣", "2x5:0.0.３",
		"2x5:5.0.0", "2x5:-1.0.0", "2x5:0.2.3", "2x5:0.0.5", "2x5:1.61.0", "2x5:1.7.1", "2x5:2.25.0", "2x5:2.0.3", "2x5:3.25.0", "2x5:3.0.61", "2x5:4.1.0", "2x5:4.10.0", "2x5:4.9.9", "2x5:0.0.3,5.0.0", "2x5:5.0.0,0.0.3",
		"0x5:", "7x2:", "2x1:", "2x11:", "0x0:", "3x6:", "3x6:0.0.3", "4x4:", "6x3:", "6x10:", "3x10:0.0.3", "2x5x5:0.0.3", "2x5x:0.0.3",
		"2x5:0.0.3,0.0.3,0.0.3,0.0.3,0.0.3,0.0.3,0.0.3", "99999999999999999999x5:", "2x99999999999999999999:", "18446744073709551618x5:", "2x5:0.0.18446744073709551619", "2x5:18446744073709551616.0.3", "2x5:1.99999999999999999999.0",
		strings.Repeat("2x5:0.0.3", 20000), "2x5:" + strings.Repeat("0.0.3,", 100000) + "0.0.3", "2x5:0.0." + strings.Repeat("0", 100000) + "3", "2x5:" + strings.Repeat(".", 100000), "2x5:" + strings.Repeat(",", 100000),
		strings.Repeat(":", 100000), strings.Repeat("0", 100000) + "2x5:0.0.3",
	}
	for _, s := range bad {
		p, ok := impl.ParsePuzzle(s)
		failsPuzzle(t, fmt.Sprintf("ParsePuzzle %.40q", s), p, ok)
	}
}

// A text with a letter more, less or changed is one of another puzzle, or of none.
func TestPromise11TextsNearThoseOfPuzzles(t *testing.T) {
	for _, text := range []string{"2x5:1.7.0,0.0.3", "3x5:", "1x10:4.9.8", "2x10:3.99.10,2.10.0,1.10.0"} {
		for i := range len(text) + 1 {
			for letter := range 256 {
				near := []string{text[:i] + string([]byte{byte(letter)}) + text[i:]}
				if i < len(text) {
					near = append(near, text[:i]+text[i+1:], text[:i]+string([]byte{byte(letter)})+text[i+1:])
				}
				for _, s := range near {
					p, ok := impl.ParsePuzzle(s)
					if !ok {
						failsPuzzle(t, fmt.Sprintf("ParsePuzzle %q", s), p, ok)
						continue
					}
					same(t, fmt.Sprintf("IsPuzzle of %q", s), impl.IsPuzzle(p), true, true)
					same(t, "the text that is parsed", textOfPuzzle(p), true, s)
				}
			}
		}
	}
}

func spoilClues(clues []impl.Clue) {
	clues = clues[:cap(clues)]
	for k := range clues {
		clues[k] = clueWith(-99, -99, -99)
	}
}

func spoilNumbers(numbers []int) {
	numbers = numbers[:cap(numbers)]
	for k := range numbers {
		numbers[k] = -99
	}
}

// callPuzzles calls all functions of chapter 9, tells what they return, and spoils the lists, with the room behind them.
func callPuzzles(p impl.Puzzle, c impl.Clue, code string, k int, seed int) string {
	var told []any
	tell := func(results ...any) { told = append(told, results...) }
	tellNumber := func(number int, ok bool) { tell(number, ok) }
	tellIs := func(is bool, ok bool) { tell(is, ok) }
	tellText := func(text string, ok bool) { tell(text, ok) }
	tellNumbers := func(numbers []int, ok bool) {
		tell(slices.Clone(numbers), ok)
		spoilNumbers(numbers)
	}
	tellPuzzle := func(puzzle impl.Puzzle, ok bool) {
		tell(fmt.Sprint(puzzle), ok)
		spoilClues(puzzle.Clues)
	}
	tell(impl.IsClue(p.Lock, c), impl.IsPuzzle(p))
	tellIs(impl.DoesFit(p.Lock, c, code))
	codes, ok := impl.Solutions(p)
	tell(slices.Clone(codes), ok)
	spoilTexts(codes)
	tellNumber(impl.CountSolutions(p))
	tellText(impl.FirstSolution(p))
	tellText(impl.SureDigits(p))
	tellIs(impl.IsSolved(p))
	tellNumbers(impl.NeedlessClues(p))
	for index := range min(len(p.Clues), mostClues+1) {
		tellPuzzle(impl.DropClue(p, index))
	}
	tellPuzzle(impl.DropClue(p, k))
	tellPuzzle(impl.AddClue(p, c))
	tellNumbers(impl.LeftByClues(p))
	tellNumber(impl.BestClue(p))
	tellPuzzle(impl.HarderPuzzle(p))
	tellPuzzle(impl.MakePuzzle(p.Lock, code, k, seed))
	text, ok := impl.PuzzleText(p)
	tell(text, ok)
	tellPuzzle(impl.ParsePuzzle(text))
	return fmt.Sprint(told...)
}

// Behind the clues of a puzzle is room, in which there are others: none of these is read, changed or handed out.
func TestPromise11PuzzlesAreLeftAlone(t *testing.T) {
	d := &drawn{last: 119}
	for _, l := range locksUpTo(mostPuzzled) {
		j := judgeOf(l)
		for count := range mostClues + 1 {
			hidden := d.codeOf(j.codes)
			clues := d.trueClues(j, hidden, count)
			c, k, seed := d.trueClue(j, cluesOfKind(l, d.below(kindsOfClues)), hidden), d.below(count+1), d.below(mostSeed+1)
			room := slices.Concat([]impl.Clue{clueWith(7, 7, 7)}, clues, []impl.Clue{clueWith(8, 8, 8), clueWith(9, 9, 9), clueWith(0, 0, 0)})
			before := slices.Clone(room)
			p := puzzleOf(l, room[1:1+count]...)
			what := textOfPuzzle(p)
			want := callPuzzles(puzzleOf(l, slices.Clip(slices.Clone(clues))...), c, hidden, k, seed)
			same(t, "with room behind the clues "+what, callPuzzles(p, c, hidden, k, seed), true, want)
			same(t, "the same calls again "+what, callPuzzles(p, c, hidden, k, seed), true, want)
			sameList(t, "the clues "+what, room, true, before)
			same(t, "where the clues end "+what, len(p.Clues), true, count)
		}
	}
}

func TestPromise11ListsThatAreNoCluesAreLeftAlone(t *testing.T) {
	good := clueWith(0, 0, 1)
	for _, bad := range badClues() {
		for _, clues := range [][]impl.Clue{{bad}, {good, bad, good}, {good, bad}, {bad, bad, good, good, good, good, bad}} {
			room := append(slices.Clone(clues), good, bad)
			before := slices.Clone(room)
			callPuzzles(puzzleOf(lockOf(3, 5), room[:len(clues)]...), bad, "012", 1, 1)
			callPuzzles(puzzleOf(lockOf(3, 5), room[:len(clues)]...), good, "777", 0, -1)
			sameList(t, "the clues", room, true, before)
		}
	}
}

// Each puzzle that is returned is spoilt, with the room behind it: neither the puzzle that it was made of nor the next one changes.
func TestPromise11PuzzlesThatAreReturnedAreNew(t *testing.T) {
	clues := []impl.Clue{clueWith(1, 7, 0), clueWith(0, 0, 3), clueWith(3, 19, 0), clueWith(4, 9, 1)}
	solved := puzzleOf(lockOf(2, 5), clues...)
	allNeeded := puzzleOf(lockOf(2, 5), clues[:2]...)
	makers := map[string]func() (impl.Puzzle, bool){
		"DropClue first":             func() (impl.Puzzle, bool) { return impl.DropClue(solved, 0) },
		"DropClue in between":        func() (impl.Puzzle, bool) { return impl.DropClue(solved, 2) },
		"DropClue last":              func() (impl.Puzzle, bool) { return impl.DropClue(solved, 3) },
		"DropClue last of two":       func() (impl.Puzzle, bool) { return impl.DropClue(allNeeded, 1) },
		"AddClue":                    func() (impl.Puzzle, bool) { return impl.AddClue(solved, clueWith(0, 1, 4)) },
		"AddClue with room":          func() (impl.Puzzle, bool) { return impl.AddClue(allNeeded, clueWith(0, 1, 4)) },
		"HarderPuzzle":               func() (impl.Puzzle, bool) { return impl.HarderPuzzle(solved) },
		"HarderPuzzle of all clues":  func() (impl.Puzzle, bool) { return impl.HarderPuzzle(allNeeded) },
		"HarderPuzzle with one clue": func() (impl.Puzzle, bool) { return impl.HarderPuzzle(puzzleOf(lockOf(2, 5), clues[2:3]...)) },
		"MakePuzzle":                 func() (impl.Puzzle, bool) { return impl.MakePuzzle(lockOf(2, 5), "34", 6, 0) },
		"ParsePuzzle":                func() (impl.Puzzle, bool) { return impl.ParsePuzzle("2x5:1.7.0,0.0.3") },
	}
	before := slices.Clone(clues)
	for what, make := range makers {
		p, ok := make()
		want := puzzleOf(p.Lock, slices.Clone(p.Clues)...)
		same(t, what, len(p.Clues) > 0, ok, true)
		spoilClues(p.Clues)
		sameList(t, what+" leaves the clues alone", clues, true, before)
		p, ok = make()
		sameAsPuzzle(t, what+" again", p, ok, want)
		_ = append(p.Clues, clueWith(-99, -99, -99))
		sameList(t, what+" leaves the clues behind alone", clues, true, before)
	}
}

func TestPromise11ListsOfPuzzlesAreNew(t *testing.T) {
	p := puzzleWith(t, "2x5:1.7.0,1.7.0,4.2.1")
	for range 3 {
		codes, ok := impl.Solutions(p)
		sameList(t, "Solutions", codes, ok, []string{"34", "43"})
		spoilTexts(codes)
		needless, ok := impl.NeedlessClues(p)
		sameList(t, "NeedlessClues", needless, ok, []int{0, 1, 2})
		spoilNumbers(needless)
		left, ok := impl.LeftByClues(p)
		sameList(t, "LeftByClues", left, ok, []int{25, 2, 2, 2})
		spoilNumbers(left)
	}
}

func TestPromise11NilAndEmptyListsOfClues(t *testing.T) {
	for _, l := range append(badPuzzled(), locksUpTo(mostPuzzled)...) {
		for _, c := range []impl.Clue{{}, clueWith(0, 0, 1), clueWith(9, 9, 9)} {
			nothing, empty := impl.Puzzle{Lock: l}, impl.Puzzle{Lock: l, Clues: []impl.Clue{}}
			same(t, fmt.Sprint("nil and empty clues ", l), callPuzzles(empty, c, "00", 0, 0), true, callPuzzles(nothing, c, "00", 0, 0))
		}
	}
}

func TestPromise11NothingPanicsWithPuzzles(t *testing.T) {
	locks := append(badPuzzled(), lockOf(1, 2), lockOf(1, 10), lockOf(2, 5), lockOf(3, 5), lockOf(6, 2))
	codes := append(badCodes(), "0", "9", "34", "142", "010110")
	numbers := append(farNumbers(), 0, 1, 2, 3, 4, 5, 6, 7, 8, 9, 10, 24, 60, 61, 124, mostSeed, mostSeed+1)
	for i, l := range locks {
		for k, number := range numbers {
			at := func(step int) int { return numbers[(i+k*step+step)%len(numbers)] }
			for kind := -1; kind <= kindsOfClues; kind++ {
				some := []impl.Clue{clueWith(kind, number, at(3)), clueWith(kind, at(5), number), clueWith(number, kind, kind), clueWith(0, 0, 1), clueWith(kind, number, number)}
				for count := range len(some) + 1 {
					callPuzzles(puzzleOf(l, some[:count]...), some[k%len(some)], codes[(i*7+k)%len(codes)], at(7), at(11))
				}
			}
		}
	}
}

func TestPromise11PuzzlesAtTheSameTime(t *testing.T) {
	p := puzzleWith(t, "3x5:3.77.3,4.9.2,0.2.2,1.7.0,3.117.3,2.85.0")
	bad := puzzleOf(p.Lock, append(slices.Clone(p.Clues[:3]), clueWith(4, 1, 0))...)
	call := func() string {
		return callPuzzles(p, clueWith(1, 7, 0), "142", 6, 77) + callPuzzles(bad, clueWith(1, 7, 1), "142", 3, 9999)
	}
	want := call()
	told := make([]string, 16)
	var callers sync.WaitGroup
	for i := range told {
		callers.Go(func() {
			for range 20 {
				told[i] = call()
			}
		})
	}
	callers.Wait()
	for _, s := range told {
		same(t, "calls at the same time", s, true, want)
	}
}
