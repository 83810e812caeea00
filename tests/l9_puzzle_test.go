package tests

import (
	"fmt"
	"slices"
	"strings"
	"testing"

	"loop.example/g01304/impl"
)

// Promise 9: solutions fit all clues, and harder puzzles are solved by the same code.

func TestPromise9Example(t *testing.T) {
	p := puzzleWith(t, "2x5:1.7.0,0.0.3")
	sameAsPuzzle(t, "ParsePuzzle", p, true, puzzleOf(lockOf(2, 5), clueWith(1, 7, 0), clueWith(0, 0, 3)))
	codes, ok := impl.Solutions(p)
	sameList(t, "Solutions", codes, ok, []string{"34"})
	left, ok := impl.LeftByClues(p)
	sameList(t, "LeftByClues", left, ok, []int{25, 2, 1})
	q, ok := impl.DropClue(p, 1)
	sameAsPuzzle(t, "DropClue", q, ok, puzzleOf(lockOf(2, 5), clueWith(1, 7, 0)))
	codes, ok = impl.Solutions(q)
	sameList(t, "Solutions of the first clue", codes, ok, []string{"34", "43"})
	sure, ok := impl.SureDigits(q)
	same(t, "SureDigits", sure, ok, "??")
	for b, want := range []bool{false, false, false, true, false} {
		fits, ok := impl.DoesFit(lockOf(2, 5), clueWith(3, 0, b), "34")
		same(t, fmt.Sprint("the distance ", b), fits, ok, want)
	}
}

func TestPromise9Limits(t *testing.T) {
	same(t, "MaxPuzzled", impl.MaxPuzzled, true, 125)
	same(t, "MaxClues", impl.MaxClues, true, 6)
}

// Each lock has just the clues that are written down, of all numbers around those that they have.
func TestPromise9WhichClues(t *testing.T) {
	for _, l := range locksUpTo(mostPuzzled) {
		there := map[impl.Clue]bool{}
		for _, c := range cluesOf(l) {
			there[c] = true
		}
		for kind := -2; kind <= 7; kind++ {
			for a := -2; a <= mostPuzzled+2; a++ {
				for b := -2; b <= mostToldFar+2; b++ {
					c := clueWith(kind, a, b)
					if is := impl.IsClue(l, c); is != there[c] {
						t.Errorf("IsClue %v %v: got %v", l, c, is)
					}
				}
			}
		}
	}
}

// A clue of each kind, and a code that fits it, one beside that does not.
func TestPromise9KindsOfClues(t *testing.T) {
	for _, c := range []struct {
		text  string
		codes string
	}{
		{"3x4:0.0.3", "300 301 302 303 310 311 312 313 320 321 322 323 330 331 332 333"},
		{"2x3:0.1.2", "02 12 22"},
		{"3x3:1.2.0", "002 011 020 101 110 200"},
		{"3x3:1.6.0", "222"},
		{"3x3:1.7.0", ""},
		{"2x4:2.6.2", "12"},
		{"2x4:2.6.1", "02 10 11 13 22 32"},
		{"2x3:2.5.0", "00 01 20 21"},
		{"2x3:2.5.2", "12"},
		{"2x5:3.0.0", "00"},
		{"2x5:3.0.1", "01 04 10 40"},
		{"2x5:3.7.4", "30 34 40 44"},
		{"2x5:3.7.5", ""},
		{"1x10:4.9.0", "0 9"},
		{"2x3:4.4.1", "01 12"},
		{"2x3:4.2.1", "01 10 12 21"},
	} {
		p := puzzleWith(t, c.text)
		codes, ok := impl.Solutions(p)
		sameList(t, "Solutions "+c.text, codes, ok, strings.Fields(c.codes))
		for _, code := range codesOf(p.Lock) {
			fits, ok := impl.DoesFit(p.Lock, p.Clues[0], code)
			same(t, "DoesFit "+c.text+" "+code, fits, ok, slices.Contains(strings.Fields(c.codes), code))
		}
	}
}

func TestPromise9CodesThatFitEachClue(t *testing.T) {
	for _, l := range locksUpTo(mostPuzzled) {
		j := judgeOf(l)
		for _, c := range cluesOf(l) {
			want := j.fitting([]impl.Clue{c})
			codes, ok := impl.Solutions(puzzleOf(l, c))
			if !ok || !slices.Equal(codes, want) {
				t.Errorf("Solutions %v %v: got %v, %v, want %v", l, c, codes, ok, want)
			}
			for _, code := range j.codes {
				if fits, ok := impl.DoesFit(l, c, code); !ok || fits != slices.Contains(want, code) {
					t.Errorf("DoesFit %v %v %v: got %v, %v", l, c, code, fits, ok)
				}
			}
		}
	}
}

// Of all distances that may be told just those that there are between codes are those of some code.
func TestPromise9GreatestSumsAndDistances(t *testing.T) {
	for _, l := range locksUpTo(mostPuzzled) {
		sums, distances := 0, 0
		for number := range mostToldSum + 1 {
			n, ok := impl.CountSolutions(puzzleOf(l, clueWith(1, number, 0)))
			sums += n
			m, fine := impl.CountSolutions(puzzleOf(l, clueWith(3, codesCounted(l)-1, number)))
			distances += m
			same(t, fmt.Sprint("sums ", l, number), n == 0, ok, number > l.Wheels*(l.Digits-1))
			same(t, fmt.Sprint("distances ", l, number), m == 0, fine, number > l.Wheels*(l.Digits/2))
		}
		same(t, fmt.Sprint("all sums ", l), sums, true, codesCounted(l))
		same(t, fmt.Sprint("all distances ", l), distances, true, codesCounted(l))
	}
}

func TestPromise9PuzzlesOfNoClue(t *testing.T) {
	for _, l := range locksUpTo(mostPuzzled) {
		samePuzzle(t, judgeOf(l))
		sure, ok := impl.SureDigits(puzzleOf(l))
		same(t, fmt.Sprint("SureDigits ", l), sure, ok, strings.Repeat("?", l.Wheels))
		left, ok := impl.LeftByClues(puzzleOf(l))
		sameList(t, fmt.Sprint("LeftByClues ", l), left, ok, []int{codesCounted(l)})
	}
}

func TestPromise9DrawnPuzzles(t *testing.T) {
	d := &drawn{last: 9}
	for _, l := range locksUpTo(mostPuzzled) {
		j := judgeOf(l)
		for count := 1; count <= mostClues; count++ {
			for range 8 {
				samePuzzle(t, j, d.trueClues(j, d.codeOf(j.codes), count)...)
				samePuzzle(t, j, d.anyClues(l, count)...)
				samePuzzle(t, j, slices.Concat(d.trueClues(j, d.codeOf(j.codes), count-1), d.anyClues(l, 1))...)
			}
		}
	}
}

// No code of the smallest locks has a sum or a distance as great as these, so that one clue stands for all of them, but for those at the limit.
func isFarOut(c impl.Clue) bool {
	return c.Kind == 1 && c.A > 4 && c.A < mostToldSum || c.Kind == 3 && c.B > 3 && c.B < mostToldFar
}

// Pairs of clues of the smallest locks, each one with itself and in both orders as well.
func TestPromise9PairsOfClues(t *testing.T) {
	for _, l := range []impl.Lock{lockOf(1, 2), lockOf(1, 3), lockOf(2, 2)} {
		j := judgeOf(l)
		clues := slices.DeleteFunc(cluesOf(l), isFarOut)
		for _, a := range clues {
			for _, b := range clues {
				samePuzzle(t, j, a, b)
			}
		}
	}
}

// What the promise says, of the functions alone.
func TestPromise9SolutionsFitAllClues(t *testing.T) {
	d := &drawn{last: 99}
	for _, l := range locksUpTo(mostPuzzled) {
		j := judgeOf(l)
		for count := range mostClues + 1 {
			hidden := d.codeOf(j.codes)
			p := puzzleOf(l, d.trueClues(j, hidden, count)...)
			solutions, ok := impl.Solutions(p)
			same(t, fmt.Sprint("the hidden code ", hidden, p), slices.Contains(solutions, hidden), ok, true)
			same(t, fmt.Sprint("the order ", p), slices.IsSorted(solutions), ok, true)
			for _, code := range j.codes {
				fitsAll := true
				for _, c := range p.Clues {
					fits, ok := impl.DoesFit(l, c, code)
					fitsAll = fitsAll && fits && ok
				}
				same(t, fmt.Sprint("a solution ", p, code), slices.Contains(solutions, code), ok, fitsAll)
			}
		}
	}
}

func TestPromise9HarderPuzzlesHaveTheSameSolution(t *testing.T) {
	d, tried := &drawn{last: 999}, 0
	for _, l := range locksUpTo(mostPuzzled) {
		j := judgeOf(l)
		for range 60 {
			hidden := d.codeOf(j.codes)
			p := puzzleOf(l, d.trueClues(j, hidden, 2+d.below(mostClues-1))...)
			harder, ok := impl.HarderPuzzle(p)
			if !ok {
				failsPuzzle(t, fmt.Sprint("HarderPuzzle ", p), harder, ok)
				same(t, fmt.Sprint("codes left ", p), len(j.fitting(p.Clues)) > 1, true, true)
				continue
			}
			tried++
			what := fmt.Sprint(p, harder)
			codes, ok := impl.Solutions(harder)
			sameList(t, "Solutions "+what, codes, ok, []string{hidden})
			is, ok := impl.IsSolved(harder)
			same(t, "IsSolved "+what, is, ok, true)
			needless, ok := impl.NeedlessClues(harder)
			sameList(t, "NeedlessClues "+what, needless, ok, nil)
			again, ok := impl.HarderPuzzle(harder)
			sameAsPuzzle(t, "HarderPuzzle again "+what, again, ok, harder)
		}
	}
	same(t, "many puzzles are solved", tried > 300, true, true)
}

// It matters which clue is taken out first, and each one is tried with those that are left.
func TestPromise9ClueByClueIsTakenOut(t *testing.T) {
	for text, want := range map[string]string{
		"2x5:1.7.0,0.0.3":               "2x5:1.7.0,0.0.3",
		"2x5:1.7.0,0.0.3,0.1.4":         "2x5:0.0.3,0.1.4",
		"2x5:3.2.4,4.9.1,0.1.4,1.7.0":   "2x5:0.1.4,1.7.0",
		"2x5:1.7.0,0.1.4,4.7.5,1.7.0":   "2x5:4.7.5,1.7.0",
		"2x5:0.1.4,2.0.0,1.7.0,0.1.4":   "2x5:1.7.0,0.1.4",
		"2x5:3.17.2,0.0.3,1.7.0,3.19.0": "2x5:3.19.0",
		"2x5:3.19.0,1.7.0,4.6.1,2.24.1": "2x5:4.6.1,2.24.1",
		"2x5:1.7.0,0.0.3,3.3.3,2.22.0":  "2x5:0.0.3,3.3.3,2.22.0",
		"2x5:3.19.0,0.0.3":              "2x5:3.19.0",
		"2x5:0.0.3,3.19.0":              "2x5:3.19.0",
		"2x5:3.19.0,3.19.0,3.19.0":      "2x5:3.19.0",
		"1x2:0.0.1":                     "1x2:0.0.1",
		"1x2:0.0.1,1.1.0":               "1x2:1.1.0",
		"6x2:2.63.6,2.0.0,1.6.0,3.63.0": "6x2:3.63.0",
		"3x5:0.0.1,0.1.2,0.2.3,4.9.2":   "3x5:0.1.2,0.2.3,4.9.2",
		"3x5:4.9.2,0.0.1,0.1.2,0.2.3":   "3x5:0.0.1,0.1.2,0.2.3",
		"2x10:4.9.4,4.8.1,4.7.6,4.2.1":  "",
		"2x10:4.9.4,4.8.1,4.7.0,4.2.1":  "2x10:4.8.1,4.7.0",
		"2x10:1.4.0,4.9.4,4.8.5":        "2x10:1.4.0,4.8.5",
		"1x10:4.2.1,4.3.1,4.4.3,1.7.0":  "1x10:1.7.0",
		"1x10:1.7.0,4.2.1,4.3.1,4.4.3":  "1x10:4.3.1,4.4.3",
		"2x5:":                          "",
		"2x5:0.0.3":                     "",
		"2x5:0.0.3,0.0.2,3.19.0":        "",
		"2x5:0.0.3,0.0.3,0.0.3,0.0.3":   "",
		"3x5:1.12.0":                    "3x5:1.12.0",
		"3x5:0.0.4,0.1.4,0.2.4,1.12.0":  "3x5:1.12.0",
		"3x5:1.12.0,0.0.4,0.1.4,0.2.4":  "3x5:0.0.4,0.1.4,0.2.4",
		"4x3:2.80.4,2.80.4":             "4x3:2.80.4",
		"4x3:2.80.4,2.79.3,2.79.3":      "4x3:2.80.4",
		"5x2:3.31.5,3.31.5,1.0.0,0.0.0": "5x2:1.0.0",
		"5x2:3.31.5,3.31.5,0.0.0,0.0.0": "5x2:3.31.5",
		"5x2:3.31.5,3.30.4,0.0.0,0.0.0": "5x2:3.31.5",
		"5x2:3.30.4,3.30.4,0.0.0,0.4.0": "5x2:3.30.4,0.4.0",
		"5x2:3.30.4,3.30.4,0.0.0,0.4.1": "",
		"1x9:4.9.8,0.0.8,1.8.0,2.8.1":   "1x9:2.8.1",
		"1x9:4.9.8,0.0.8,1.8.0,3.8.0":   "1x9:3.8.0",
	} {
		harder, ok := impl.HarderPuzzle(puzzleWith(t, text))
		if want == "" {
			failsPuzzle(t, "HarderPuzzle "+text, harder, ok)
			continue
		}
		sameAsPuzzle(t, "HarderPuzzle "+text, harder, ok, puzzleWith(t, want))
	}
}

func TestPromise9NeedlessAndBestClues(t *testing.T) {
	for _, c := range []struct {
		text     string
		needless []int
		left     []int
		best     int
	}{
		{"2x5:1.7.0,0.0.3", nil, []int{25, 2, 1}, 0},
		{"2x5:0.0.3,1.7.0", nil, []int{25, 5, 1}, 1},
		{"2x5:0.0.3,0.1.4", nil, []int{25, 5, 1}, 0},
		{"2x5:0.0.3,0.0.3", []int{0, 1}, []int{25, 5, 5}, 0},
		{"2x5:1.7.0,0.0.3,0.1.4", []int{0, 1, 2}, []int{25, 2, 1, 1}, 0},
		{"2x5:0.0.3,0.1.4,1.7.0", []int{0, 1, 2}, []int{25, 5, 1, 1}, 2},
		{"2x5:0.0.3,3.19.0,1.7.0,3.19.0", []int{0, 1, 2, 3}, []int{25, 5, 1, 1, 1}, 1},
		{"2x5:0.0.3,3.19.0", []int{0}, []int{25, 5, 1}, 1},
		{"2x5:0.0.3,0.0.4", nil, []int{25, 5, 0}, 0},
		{"2x5:0.0.3,0.0.4,0.0.3", []int{0, 2}, []int{25, 5, 0, 0}, 0},
		{"2x5:0.0.3,0.0.4,0.0.2", []int{0, 1, 2}, []int{25, 5, 0, 0}, 0},
		{"2x5:1.60.0,0.0.3", []int{1}, []int{25, 0, 0}, 0},
		{"2x5:0.0.3,1.60.0", []int{0}, []int{25, 5, 0}, 1},
		{"2x5:0.0.3,3.0.60,1.60.0", []int{0, 1, 2}, []int{25, 5, 0, 0}, 1},
		{"3x5:1.0.0,0.0.0", []int{1}, []int{125, 1, 1}, 0},
		{"6x2:0.0.0,0.1.0,0.2.0,0.3.0,0.4.0,0.5.0", nil, []int{64, 32, 16, 8, 4, 2, 1}, 0},
		{"1x10:4.2.1,4.9.7", []int{0}, []int{10, 5, 1}, 1},
		{"1x10:4.9.0,4.2.1", nil, []int{10, 2, 1}, 0},
		{"1x2:0.0.1,1.1.0,2.1.1,3.1.0,4.2.1", []int{0, 1, 2, 3, 4}, []int{2, 1, 1, 1, 1, 1}, 0},
	} {
		p := puzzleWith(t, c.text)
		needless, ok := impl.NeedlessClues(p)
		sameList(t, "NeedlessClues "+c.text, needless, ok, c.needless)
		left, ok := impl.LeftByClues(p)
		sameList(t, "LeftByClues "+c.text, left, ok, c.left)
		k, ok := impl.BestClue(p)
		same(t, "BestClue "+c.text, k, ok, c.best)
	}
}

func TestPromise9SureDigits(t *testing.T) {
	for text, want := range map[string]string{
		"2x5:": "??", "2x5:1.7.0": "??", "2x5:0.0.3": "3?", "2x5:0.1.3": "?3", "2x5:3.19.0": "34", "1x10:": "?", "1x10:0.0.9": "9", "1x10:4.9.0": "?",
		"3x3:1.6.0": "222", "3x3:0.1.2,1.2.0": "020", "3x3:0.1.1,1.2.0": "?1?", "3x4:2.6.3,1.3.0": "012", "6x2:3.63.1,0.5.0": "111110", "6x2:0.2.1,0.4.0": "??1?0?",
		"2x10:4.9.0,4.5.0": "??", "2x10:0.0.4,4.9.0": "45", "4x2:1.3.0,0.0.0": "0111", "4x2:1.3.0,0.0.1": "1???",
	} {
		sure, ok := impl.SureDigits(puzzleWith(t, text))
		same(t, "SureDigits "+text, sure, ok, want)
	}
	for _, text := range []string{"2x5:1.60.0", "2x5:1.9.0", "2x5:0.0.3,0.0.4", "6x2:3.0.7", "1x2:1.0.0,0.0.1", "2x3:2.0.1,2.0.2", "3x4:2.6.2,1.3.0"} {
		p := puzzleWith(t, text)
		sure, ok := impl.SureDigits(p)
		fails(t, "SureDigits "+text, sure, ok)
		first, ok := impl.FirstSolution(p)
		fails(t, "FirstSolution "+text, first, ok)
		codes, ok := impl.Solutions(p)
		sameList(t, "Solutions "+text, codes, ok, nil)
		n, ok := impl.CountSolutions(p)
		same(t, "CountSolutions "+text, n, ok, 0)
		is, ok := impl.IsSolved(p)
		same(t, "IsSolved "+text, is, ok, false)
	}
}

// The same clue told twice changes no solutions, and each of both can be spared.
func TestPromise9TheSameClueTwice(t *testing.T) {
	d := &drawn{last: 29}
	for _, l := range locksUpTo(mostPuzzled) {
		j := judgeOf(l)
		for _, c := range d.trueClues(j, d.codeOf(j.codes), 20) {
			once, ok := impl.Solutions(puzzleOf(l, c))
			twice, fine := impl.Solutions(puzzleOf(l, c, c))
			sameList(t, fmt.Sprint("Solutions ", l, c), twice, ok && fine, once)
			needless, ok := impl.NeedlessClues(puzzleOf(l, c, c))
			sameList(t, fmt.Sprint("NeedlessClues ", l, c), needless, ok, []int{0, 1})
			samePuzzle(t, j, c, c)
			samePuzzle(t, j, c, c, c, c, c, c)
		}
	}
}

func TestPromise9MadePuzzles(t *testing.T) {
	for _, c := range []struct {
		code string
		seed int
		text string
	}{
		{"34", 0, "2x5:3.2.4,4.9.1,0.1.4,1.7.0,3.17.2,2.10.0"},
		{"34", 1, "2x5:1.7.0,0.1.4,4.7.5,1.7.0,1.7.0,1.7.0"},
		{"34", 7, "2x5:4.9.1,4.7.5,4.5.4,4.9.1,3.21.3,2.10.0"},
		{"34", 9999, "2x5:4.5.4,1.7.0,2.9.1,3.3.3,4.2.1,0.0.3"},
		{"142", 0, "3x5:3.77.3,4.9.2,0.2.2,1.7.0,3.117.3,2.85.0"},
		{"142", 9999, "3x5:4.5.2,1.7.0,2.9.0,3.28.2,4.2.1,0.0.1"},
		{"7", 0, "1x10:3.7.0,4.9.7,0.0.7,1.7.0,3.7.0,2.0.0"},
		{"7", 7, "1x10:4.9.7,4.7.0,4.5.2,4.9.7,3.1.4,2.5.0"},
		{"010110", 0, "6x2:3.19.2,4.9.4,0.5.0,1.3.0,3.63.3,2.18.5"},
		{"010110", 9999, "6x2:4.5.2,1.3.0,2.16.4,3.13.4,4.2.0,0.0.0"},
		{"0", 0, "1x2:3.1.1,4.9.0,0.0.0,1.0.0,3.1.1,2.0.1"},
		{"0", 7, "1x2:4.9.0,4.7.0,4.5.0,4.9.0,3.1.1,2.1.0"},
	} {
		want := puzzleWith(t, c.text)
		for clues := range mostClues + 1 {
			p, ok := impl.MakePuzzle(want.Lock, c.code, clues, c.seed)
			sameAsPuzzle(t, fmt.Sprint("MakePuzzle ", c.code, clues, c.seed), p, ok, puzzleOf(want.Lock, want.Clues[:clues]...))
		}
	}
}

func TestPromise9MadePuzzlesOfAllSeeds(t *testing.T) {
	j := judgeOf(lockOf(3, 5))
	for seed := range mostSeed + 1 {
		code := j.codes[seed%len(j.codes)]
		p, ok := impl.MakePuzzle(j.lock, code, mostClues, seed)
		sameAsPuzzle(t, fmt.Sprint("MakePuzzle ", code, seed), p, ok, puzzleOf(j.lock, j.made(code, mostClues, seed)...))
	}
}

func TestPromise9MadePuzzlesOfAllLocks(t *testing.T) {
	d := &drawn{last: 39}
	for _, l := range locksUpTo(mostPuzzled) {
		j := judgeOf(l)
		for _, code := range j.codes {
			for _, seed := range []int{0, 1, mostSeed, d.below(mostSeed + 1)} {
				clues := d.below(mostClues + 1)
				p, ok := impl.MakePuzzle(l, code, clues, seed)
				what := fmt.Sprint("MakePuzzle ", l, code, clues, seed)
				sameAsPuzzle(t, what, p, ok, puzzleOf(l, j.made(code, clues, seed)...))
				same(t, what+" makes a puzzle", impl.IsPuzzle(p), true, true)
				solutions, ok := impl.Solutions(p)
				same(t, what+" has the code", slices.Contains(solutions, code), ok, true)
			}
		}
	}
}

func TestPromise9TextsOfPuzzles(t *testing.T) {
	for _, p := range []impl.Puzzle{
		puzzleOf(lockOf(1, 2)), puzzleOf(lockOf(1, 10)), puzzleOf(lockOf(2, 10)), puzzleOf(lockOf(6, 2)), puzzleOf(lockOf(3, 5)),
		puzzleOf(lockOf(2, 10), clueWith(2, 99, 2)), puzzleOf(lockOf(2, 10), clueWith(3, 99, 60), clueWith(1, 60, 0)), puzzleOf(lockOf(3, 5), clueWith(3, 124, 10), clueWith(2, 100, 0)),
		puzzleOf(lockOf(1, 10), clueWith(0, 0, 9), clueWith(1, 0, 0), clueWith(2, 9, 1), clueWith(3, 0, 0), clueWith(4, 9, 8), clueWith(4, 2, 0)),
	} {
		text := textOfPuzzle(p)
		got, ok := impl.PuzzleText(p)
		same(t, "PuzzleText", got, ok, text)
		back, ok := impl.ParsePuzzle(text)
		sameAsPuzzle(t, "ParsePuzzle "+text, back, ok, p)
	}
	text, ok := impl.PuzzleText(puzzleOf(lockOf(2, 5)))
	same(t, "PuzzleText of no clue", text, ok, "2x5:")
	text, ok = impl.PuzzleText(puzzleOf(lockOf(2, 10), clueWith(3, 99, 60), clueWith(1, 60, 0), clueWith(4, 9, 0)))
	same(t, "PuzzleText of great numbers", text, ok, "2x10:3.99.60,1.60.0,4.9.0")
	for _, l := range locksUpTo(mostPuzzled) {
		for _, c := range cluesOf(l) {
			p := puzzleOf(l, c)
			text, ok := impl.PuzzleText(p)
			same(t, "PuzzleText", text, ok, textOfPuzzle(p))
			back, ok := impl.ParsePuzzle(text)
			sameAsPuzzle(t, "ParsePuzzle "+text, back, ok, p)
		}
	}
}

// Just as many clues as there may be are told, and no more.
func TestPromise9MostClues(t *testing.T) {
	for _, l := range locksUpTo(mostPuzzled) {
		p := puzzleOf(l)
		for wheel := range mostClues {
			more, ok := impl.AddClue(p, clueWith(0, wheel%l.Wheels, 1))
			sameAsPuzzle(t, fmt.Sprint("AddClue ", p), more, ok, puzzleOf(l, append(slices.Clone(p.Clues), clueWith(0, wheel%l.Wheels, 1))...))
			p = more
		}
		same(t, fmt.Sprint("IsPuzzle ", p), impl.IsPuzzle(p), true, true)
		codes, ok := impl.Solutions(p)
		sameList(t, fmt.Sprint("Solutions ", p), codes, ok, []string{strings.Repeat("1", l.Wheels)})
		more, ok := impl.AddClue(p, clueWith(0, 0, 1))
		failsPuzzle(t, fmt.Sprint("AddClue ", p), more, ok)
		for k := range mostClues {
			fewer, ok := impl.DropClue(p, k)
			sameAsPuzzle(t, fmt.Sprint("DropClue ", p, k), fewer, ok, puzzleOf(l, withoutClue(p.Clues, k)...))
			again, ok := impl.AddClue(fewer, p.Clues[k])
			same(t, fmt.Sprint("AddClue ", p, k), len(again.Clues), ok, mostClues)
		}
	}
}

// Locks of just as many codes as there may be hidden ones, and of the next more.
func TestPromise9MostCodes(t *testing.T) {
	for _, l := range allLocks() {
		is := codesCounted(l) <= mostPuzzled
		same(t, fmt.Sprint("IsPuzzle ", l), impl.IsPuzzle(puzzleOf(l)), true, is)
		same(t, fmt.Sprint("IsClue ", l), impl.IsClue(l, clueWith(0, 0, 0)), true, is)
	}
	codes, ok := impl.Solutions(puzzleOf(lockOf(3, 5)))
	sameList(t, "Solutions", codes, ok, codesOf(lockOf(3, 5)))
	same(t, "MaxPuzzled", len(codes), ok, mostPuzzled)
}
