package tests

import (
	"fmt"
	"slices"
	"strconv"
	"strings"
	"testing"

	"loop.example/g01304/impl"
)

// The helpers write down all codes and all clues of a lock, go from code to code turn by turn, and take away what is divided by again and again.

const (
	mostPuzzled  = 125
	mostClues    = 6
	mostToldSum  = 60
	mostToldFar  = 60
	mostSeed     = 9999
	kindsOfClues = 5
)

func clueWith(kind int, a int, b int) impl.Clue {
	return impl.Clue{Kind: kind, A: a, B: b}
}

func puzzleOf(l impl.Lock, clues ...impl.Clue) impl.Puzzle {
	return impl.Puzzle{Lock: l, Clues: clues}
}

func puzzleWith(t *testing.T, s string) impl.Puzzle {
	t.Helper()
	p, ok := impl.ParsePuzzle(s)
	if !ok {
		t.Fatalf("%q should be a text of a puzzle", s)
	}
	return p
}

// A judge knows all codes of a lock and, as far as it was asked, the turns from one to all others.
type judge struct {
	lock   impl.Lock
	codes  []string
	routes map[string]map[string]route
}

func judgeOf(l impl.Lock) *judge {
	return &judge{lock: l, codes: codesOf(l), routes: map[string]map[string]route{}}
}

func (j *judge) distance(from string, to string) int {
	if j.routes[from] == nil {
		j.routes[from] = routesFrom(j.lock, from)
	}
	return j.routes[from][to].length
}

func digitSum(code string) int {
	sum := 0
	for _, digit := range code {
		sum += strings.IndexRune("0123456789", digit)
	}
	return sum
}

func leftOver(number int, divisor int) int {
	for number >= divisor {
		number -= divisor
	}
	return number
}

func (j *judge) fits(c impl.Clue, code string) bool {
	switch c.Kind {
	case 0:
		return code[c.A:c.A+1] == strconv.Itoa(c.B)
	case 1:
		return digitSum(code) == c.A
	case 2:
		return struckHint(j.codes[c.A], code).Places == c.B
	case 3:
		return j.distance(j.codes[c.A], code) == c.B
	}
	return leftOver(slices.Index(j.codes, code), c.A) == c.B
}

// fitting returns the codes that fit all clues.
func (j *judge) fitting(clues []impl.Clue) []string {
	codes := slices.Clone(j.codes)
	for _, c := range clues {
		codes = slices.DeleteFunc(codes, func(code string) bool { return !j.fits(c, code) })
	}
	return codes
}

// cluesOfKind returns all clues of a kind that a lock has.
func cluesOfKind(l impl.Lock, kind int) []impl.Clue {
	firstA, behindA := 0, codesCounted(l)
	switch kind {
	case 0:
		behindA = l.Wheels
	case 1:
		behindA = mostToldSum + 1
	case 4:
		firstA, behindA = 2, 10
	}
	var clues []impl.Clue
	for a := firstA; a < behindA; a++ {
		behindB := []int{l.Digits, 1, l.Wheels + 1, mostToldFar + 1, a}[kind]
		for b := range behindB {
			clues = append(clues, clueWith(kind, a, b))
		}
	}
	return clues
}

func cluesOf(l impl.Lock) []impl.Clue {
	var clues []impl.Clue
	for kind := range kindsOfClues {
		clues = append(clues, cluesOfKind(l, kind)...)
	}
	return clues
}

// trueClue looks for the first clue of a kind that a code fits, from a drawn one on. There is always one.
func (d *drawn) trueClue(j *judge, clues []impl.Clue, code string) impl.Clue {
	for k := d.below(len(clues)); ; k = (k + 1) % len(clues) {
		if j.fits(clues[k], code) {
			return clues[k]
		}
	}
}

// trueClues returns so many clues of drawn kinds that a code fits.
func (d *drawn) trueClues(j *judge, code string, count int) []impl.Clue {
	var clues []impl.Clue
	for range count {
		clues = append(clues, d.trueClue(j, cluesOfKind(j.lock, d.below(kindsOfClues)), code))
	}
	return clues
}

// anyClues returns so many clues of drawn kinds, so that often no code fits all of them.
func (d *drawn) anyClues(l impl.Lock, count int) []impl.Clue {
	var clues []impl.Clue
	for range count {
		some := cluesOfKind(l, d.below(kindsOfClues))
		clues = append(clues, some[d.below(len(some))])
	}
	return clues
}

func sureIn(codes []string) string {
	sure := ""
	for wheel := range codes[0] {
		digits := ""
		for _, code := range codes {
			digits += code[wheel : wheel+1]
		}
		if strings.Trim(digits, digits[:1]) == "" {
			sure += digits[:1]
			continue
		}
		sure += "?"
	}
	return sure
}

func withoutClue(clues []impl.Clue, k int) []impl.Clue {
	left := slices.Clone(clues)
	return slices.Delete(left, k, k+1)
}

func (j *judge) needless(clues []impl.Clue) []int {
	var needless []int
	for k := range clues {
		if len(j.fitting(withoutClue(clues, k))) == len(j.fitting(clues)) {
			needless = append(needless, k)
		}
	}
	return needless
}

func (j *judge) left(clues []impl.Clue) []int {
	left := []int{len(j.codes)}
	for behind := 1; behind <= len(clues); behind++ {
		left = append(left, len(j.fitting(clues[:behind])))
	}
	return left
}

// best goes from the last clue to the first one, so that this one stays of several.
func (j *judge) best(clues []impl.Clue) int {
	best := len(clues) - 1
	for k := best; k >= 0; k-- {
		if len(j.fitting(clues[k:k+1])) <= len(j.fitting(clues[best:best+1])) {
			best = k
		}
	}
	return best
}

// harder strikes clues out where just one code is left without them.
func (j *judge) harder(clues []impl.Clue) []impl.Clue {
	left := slices.Clone(clues)
	for at := 0; at < len(left); {
		if len(j.fitting(withoutClue(left, at))) == 1 {
			left = withoutClue(left, at)
			continue
		}
		at++
	}
	return left
}

// made looks among all clues of a kind for the one with the A asked for that a code fits.
func (j *judge) made(code string, count int, seed int) []impl.Clue {
	z := seed
	next := func() int {
		z = leftOver(z*173+2633, 10007)
		return z
	}
	var clues []impl.Clue
	for range count {
		kind := leftOver(next(), 5)
		asked := -1
		switch kind {
		case 0:
			asked = leftOver(next(), j.lock.Wheels)
		case 2, 3:
			asked = leftOver(next(), len(j.codes))
		case 4:
			asked = leftOver(next(), 8) + 2
		}
		isMade := func(c impl.Clue) bool { return (c.A == asked || kind == 1) && j.fits(c, code) }
		all := cluesOfKind(j.lock, kind)
		clues = append(clues, all[slices.IndexFunc(all, isMade)])
	}
	return clues
}

func textOfPuzzle(p impl.Puzzle) string {
	text := fmt.Sprintf("%dx%d:", p.Lock.Wheels, p.Lock.Digits)
	for k, c := range p.Clues {
		if k > 0 {
			text += ","
		}
		text += fmt.Sprintf("%d.%d.%d", c.Kind, c.A, c.B)
	}
	return text
}

func equalPuzzles(a impl.Puzzle, b impl.Puzzle) bool {
	return a.Lock == b.Lock && slices.Equal(a.Clues, b.Clues)
}

func sameAsPuzzle(t *testing.T, what string, got impl.Puzzle, ok bool, want impl.Puzzle) {
	t.Helper()
	if !ok || !equalPuzzles(got, want) {
		t.Errorf("%s: got %v, %v, want %v", what, got, ok, want)
	}
}

func failsPuzzle(t *testing.T, what string, got impl.Puzzle, ok bool) {
	t.Helper()
	if ok || !equalPuzzles(got, impl.Puzzle{}) {
		t.Errorf("%s: got %v, %v, should fail with a zero puzzle", what, got, ok)
	}
}

// samePuzzle compares all that is told of a puzzle with what the judge finds.
func samePuzzle(t *testing.T, j *judge, clues ...impl.Clue) {
	t.Helper()
	p := puzzleOf(j.lock, clues...)
	what := textOfPuzzle(p)
	same(t, "IsPuzzle "+what, impl.IsPuzzle(p), true, true)
	want := j.fitting(clues)
	codes, ok := impl.Solutions(p)
	sameList(t, "Solutions "+what, codes, ok, want)
	n, ok := impl.CountSolutions(p)
	same(t, "CountSolutions "+what, n, ok, len(want))
	is, ok := impl.IsSolved(p)
	same(t, "IsSolved "+what, is, ok, len(want) == 1)
	sameFirst(t, what, p, want)
	indices, ok := impl.NeedlessClues(p)
	sameList(t, "NeedlessClues "+what, indices, ok, j.needless(clues))
	left, ok := impl.LeftByClues(p)
	sameList(t, "LeftByClues "+what, left, ok, j.left(clues))
	k, ok := impl.BestClue(p)
	if len(clues) == 0 {
		fails(t, "BestClue "+what, k, ok)
	} else {
		same(t, "BestClue "+what, k, ok, j.best(clues))
	}
	harder, ok := impl.HarderPuzzle(p)
	if len(want) == 1 {
		sameAsPuzzle(t, "HarderPuzzle "+what, harder, ok, puzzleOf(j.lock, j.harder(clues)...))
	} else {
		failsPuzzle(t, "HarderPuzzle "+what, harder, ok)
	}
	sameChanged(t, what, p)
}

func sameFirst(t *testing.T, what string, p impl.Puzzle, want []string) {
	t.Helper()
	first, ok := impl.FirstSolution(p)
	sure, fine := impl.SureDigits(p)
	if len(want) == 0 {
		fails(t, "FirstSolution "+what, first, ok)
		fails(t, "SureDigits "+what, sure, fine)
		return
	}
	same(t, "FirstSolution "+what, first, ok, want[0])
	same(t, "SureDigits "+what, sure, fine, sureIn(want))
}

// sameChanged drops each clue, adds one that is there and one that may be new, and goes to the text and back.
func sameChanged(t *testing.T, what string, p impl.Puzzle) {
	t.Helper()
	for k := range p.Clues {
		left, ok := impl.DropClue(p, k)
		sameAsPuzzle(t, fmt.Sprint("DropClue ", what, " ", k), left, ok, puzzleOf(p.Lock, withoutClue(p.Clues, k)...))
	}
	for _, c := range append(slices.Clone(p.Clues), clueWith(0, p.Lock.Wheels-1, 1)) {
		more, ok := impl.AddClue(p, c)
		if len(p.Clues) == mostClues {
			failsPuzzle(t, "AddClue "+what, more, ok)
			continue
		}
		sameAsPuzzle(t, "AddClue "+what, more, ok, puzzleOf(p.Lock, append(slices.Clone(p.Clues), c)...))
	}
	text, ok := impl.PuzzleText(p)
	same(t, "PuzzleText", text, ok, what)
	back, ok := impl.ParsePuzzle(what)
	sameAsPuzzle(t, "ParsePuzzle "+what, back, ok, p)
}

// failsWithPuzzle calls all functions that require a puzzle, with all else as it should be, and expects each one to fail.
func failsWithPuzzle(t *testing.T, p impl.Puzzle) {
	t.Helper()
	what := fmt.Sprintf("%d %.80s", len(p.Clues), fmt.Sprint(p))
	same(t, "IsPuzzle "+what, impl.IsPuzzle(p), true, false)
	codes, ok := impl.Solutions(p)
	failsList(t, "Solutions "+what, codes, ok)
	n, ok := impl.CountSolutions(p)
	fails(t, "CountSolutions "+what, n, ok)
	text, ok := impl.FirstSolution(p)
	fails(t, "FirstSolution "+what, text, ok)
	text, ok = impl.SureDigits(p)
	fails(t, "SureDigits "+what, text, ok)
	is, ok := impl.IsSolved(p)
	fails(t, "IsSolved "+what, is, ok)
	indices, ok := impl.NeedlessClues(p)
	failsList(t, "NeedlessClues "+what, indices, ok)
	left, ok := impl.LeftByClues(p)
	failsList(t, "LeftByClues "+what, left, ok)
	n, ok = impl.BestClue(p)
	fails(t, "BestClue "+what, n, ok)
	harder, ok := impl.HarderPuzzle(p)
	failsPuzzle(t, "HarderPuzzle "+what, harder, ok)
	text, ok = impl.PuzzleText(p)
	fails(t, "PuzzleText "+what, text, ok)
	for k := -1; k <= min(len(p.Clues), mostClues+1); k++ {
		fewer, ok := impl.DropClue(p, k)
		failsPuzzle(t, fmt.Sprint("DropClue ", what, k), fewer, ok)
	}
	for _, c := range []impl.Clue{clueWith(0, 0, 0), clueWith(1, 1, 0), clueWith(4, 2, 1)} {
		more, ok := impl.AddClue(p, c)
		failsPuzzle(t, "AddClue "+what, more, ok)
	}
}

// failsWithClue expects what is no clue of a lock to be none, and to spoil each puzzle.
func failsWithClue(t *testing.T, l impl.Lock, bad impl.Clue) {
	t.Helper()
	what := fmt.Sprint(l, bad)
	same(t, "IsClue "+what, impl.IsClue(l, bad), true, false)
	zeros := strings.Repeat("0", max(0, min(l.Wheels, 10)))
	for _, code := range []string{"", "0", "00", zeros, strings.ReplaceAll(zeros, "0", "1")} {
		is, ok := impl.DoesFit(l, bad, code)
		fails(t, "DoesFit "+what+code, is, ok)
	}
	// No code fits the clues behind others, or before them: those that are none are found all the same.
	good, closed := clueWith(0, 0, 0), []impl.Clue{clueWith(0, 0, 0), clueWith(0, 0, 1)}
	for _, clues := range [][]impl.Clue{{bad}, {bad, good}, {good, bad}, append(slices.Clone(closed), bad), {bad, good, good, good, good, good}, {good, good, good, good, good, bad}} {
		failsWithPuzzle(t, puzzleOf(l, clues...))
	}
	for count := range mostClues + 1 {
		more, ok := impl.AddClue(puzzleOf(l, slices.Repeat([]impl.Clue{good}, count)...), bad)
		failsPuzzle(t, "AddClue "+what, more, ok)
	}
}

func failsToMake(t *testing.T, l impl.Lock, code string, clues int, seed int) {
	t.Helper()
	p, ok := impl.MakePuzzle(l, code, clues, seed)
	failsPuzzle(t, fmt.Sprintf("MakePuzzle %v %.20q %d %d", l, code, clues, seed), p, ok)
}
