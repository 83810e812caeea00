package tests

import (
	"fmt"
	"slices"
	"strings"
	"testing"

	"loop.example/g01304/impl"
)

// The helpers strike out digits one by one, as one would on paper, and ask all codes: they count no digits.

const (
	mostSearched = 1000
	mostHinted   = 256
)

func hintWith(guess string, places int, others int) impl.Hint {
	return impl.Hint{Guess: guess, Places: places, Others: others}
}

// struckHint strikes the same digits at the same places out first, and then each other digit of the guess that is left in the code.
func struckHint(guess string, code string) impl.Hint {
	hint := hintWith(guess, 0, 0)
	asked, left := "", ""
	for wheel := range len(guess) {
		if guess[wheel] == code[wheel] {
			hint.Places++
			continue
		}
		asked += guess[wheel:][:1]
		left += code[wheel:][:1]
	}
	for _, digit := range asked {
		if place := strings.IndexRune(left, digit); place >= 0 {
			hint.Others++
			left = left[:place] + left[place+1:]
		}
	}
	return hint
}

func fitsStruck(hints []impl.Hint, code string) bool {
	for _, hint := range hints {
		if struckHint(hint.Guess, code) != hint {
			return false
		}
	}
	return true
}

func fittingIn(codes []string, hints []impl.Hint) []string {
	var fitting []string
	for _, code := range codes {
		if fitsStruck(hints, code) {
			fitting = append(fitting, code)
		}
	}
	return fitting
}

// placesAndOthers returns all that hints of a lock may tell, in order.
func placesAndOthers(l impl.Lock) [][]int {
	var told [][]int
	for places := range l.Wheels + 1 {
		for others := range l.Wheels - places + 1 {
			told = append(told, []int{places, others})
		}
	}
	return told
}

// tableIn asks for each hint that there may be how many codes have it.
func tableIn(l impl.Lock, codes []string, guess string) [][]int {
	var rows [][]int
	for _, told := range placesAndOthers(l) {
		if count := len(fittingIn(codes, []impl.Hint{hintWith(guess, told[0], told[1])})); count > 0 {
			rows = append(rows, append(told, count))
		}
	}
	return rows
}

func worstIn(rows [][]int) int {
	worst := 0
	for _, row := range rows {
		worst = max(worst, row[2])
	}
	return worst
}

// bestIn returns no guess where no code fits.
func bestIn(l impl.Lock, hints []impl.Hint) (string, int) {
	codes := codesOf(l)
	fitting := fittingIn(codes, hints)
	best, least := "", 0
	for _, guess := range codes {
		worst := worstIn(tableIn(l, fitting, guess))
		if worst > 0 && (best == "" || worst < least) {
			best, least = guess, worst
		}
	}
	return best, least
}

// playFor keeps the codes that fit all hints so far, and guesses the first one of these.
func playFor(l impl.Lock, code string) []impl.Hint {
	var hints []impl.Hint
	left := codesOf(l)
	for {
		guess := left[0]
		hint := struckHint(guess, code)
		hints = append(hints, hint)
		if guess == code {
			return hints
		}
		left = fittingIn(left, []impl.Hint{hint})
	}
}

func needlessIn(l impl.Lock, hints []impl.Hint) []int {
	codes := codesOf(l)
	var needless []int
	for i := range hints {
		others := slices.Delete(slices.Clone(hints), i, i+1)
		if len(fittingIn(codes, others)) == len(fittingIn(codes, hints)) {
			needless = append(needless, i)
		}
	}
	return needless
}

// drawn goes on from number to number in a way that looks mixed, and is the same in each run.
type drawn struct{ last int }

func (d *drawn) below(limit int) int {
	d.last = (d.last*1103515245 + 12345) % (1 << 31)
	return d.last / 65536 % limit
}

func (d *drawn) codeOf(codes []string) string { return codes[d.below(len(codes))] }

// hintsFor returns so many hints for a code: each of any guess.
func (d *drawn) hintsFor(codes []string, code string, count int) []impl.Hint {
	var hints []impl.Hint
	for range count {
		hints = append(hints, struckHint(d.codeOf(codes), code))
	}
	return hints
}

// anyHints returns so many hints that tell anything, so that seldom a code fits them.
func (d *drawn) anyHints(l impl.Lock, codes []string, count int) []impl.Hint {
	var hints []impl.Hint
	told := placesAndOthers(l)
	for range count {
		some := told[d.below(len(told))]
		hints = append(hints, hintWith(d.codeOf(codes), some[0], some[1]))
	}
	return hints
}

func sameRows(t *testing.T, what string, got [][]int, ok bool, want [][]int) {
	t.Helper()
	if !ok || !slices.EqualFunc(got, want, slices.Equal[[]int]) {
		t.Errorf("%s: got %v, %v, want %v", what, got, ok, want)
	}
}

// sameFitting checks which codes fit hints, in all ways that tell it.
func sameFitting(t *testing.T, l impl.Lock, hints []impl.Hint) {
	t.Helper()
	what := fmt.Sprint(l, hints)
	all := codesOf(l)
	want := fittingIn(all, hints)
	are, ok := impl.AreHints(l, hints)
	same(t, "AreHints "+what, are, ok, true)
	codes, ok := impl.FittingCodes(l, hints)
	sameList(t, "FittingCodes "+what, codes, ok, want)
	n, ok := impl.CountFitting(l, hints)
	same(t, "CountFitting "+what, n, ok, len(want))
	for _, code := range all {
		fits, ok := impl.FitsHints(l, hints, code)
		same(t, "FitsHints "+what+code, fits, ok, slices.Contains(want, code))
	}
	indices, ok := impl.NeedlessHints(l, hints)
	sameList(t, "NeedlessHints "+what, indices, ok, needlessIn(l, hints))
}

// sameTable checks how a guess parts the codes that fit hints.
func sameTable(t *testing.T, l impl.Lock, hints []impl.Hint, guess string) {
	t.Helper()
	what := fmt.Sprint(l, hints, guess)
	want := tableIn(l, fittingIn(codesOf(l), hints), guess)
	rows, ok := impl.HintTable(l, hints, guess)
	sameRows(t, "HintTable "+what, rows, ok, want)
	n, ok := impl.WorstOfGuess(l, hints, guess)
	same(t, "WorstOfGuess "+what, n, ok, worstIn(want))
}

func sameBest(t *testing.T, l impl.Lock, hints []impl.Hint) {
	t.Helper()
	what := fmt.Sprint("BestGuess ", l, hints)
	wantGuess, wantWorst := bestIn(l, hints)
	guess, worst, ok := impl.BestGuess(l, hints)
	if wantGuess == "" {
		failsBest(t, what, guess, worst, ok)
		return
	}
	same(t, what, guess, ok, wantGuess)
	same(t, what, worst, ok, wantWorst)
}

func failsBest(t *testing.T, what string, guess string, worst int, ok bool) {
	t.Helper()
	fails(t, what, guess, ok)
	fails(t, what, worst, ok)
}

// failsWithHints calls all functions that require hints, and expects each one to fail.
func failsWithHints(t *testing.T, what string, l impl.Lock, hints []impl.Hint, code string) {
	t.Helper()
	failsWithHintsAndCode(t, what, l, hints, code)
	n, ok := impl.CountFitting(l, hints)
	fails(t, "CountFitting "+what, n, ok)
	codes, ok := impl.FittingCodes(l, hints)
	failsList(t, "FittingCodes "+what, codes, ok)
	guess, worst, ok := impl.BestGuess(l, hints)
	failsBest(t, "BestGuess "+what, guess, worst, ok)
	indices, ok := impl.NeedlessHints(l, hints)
	failsList(t, "NeedlessHints "+what, indices, ok)
}

// failsWithHintsAndCode calls those that require a code or a guess beside them.
func failsWithHintsAndCode(t *testing.T, what string, l impl.Lock, hints []impl.Hint, code string) {
	t.Helper()
	fits, ok := impl.FitsHints(l, hints, code)
	fails(t, "FitsHints "+what, fits, ok)
	rows, ok := impl.HintTable(l, hints, code)
	failsList(t, "HintTable "+what, rows, ok)
	n, ok := impl.WorstOfGuess(l, hints, code)
	fails(t, "WorstOfGuess "+what, n, ok)
}

// failsWithPlay calls all functions that require a code alone, and expects each one to fail.
func failsWithPlay(t *testing.T, what string, l impl.Lock, code string) {
	t.Helper()
	hints, ok := impl.PlayFirst(l, code)
	failsList(t, "PlayFirst "+what, hints, ok)
	n, ok := impl.CountGuesses(l, code)
	fails(t, "CountGuesses "+what, n, ok)
}

func failsHintOf(t *testing.T, what string, l impl.Lock, guess string, code string) {
	t.Helper()
	places, others, ok := impl.HintOf(l, guess, code)
	fails(t, "HintOf "+what, places, ok)
	fails(t, "HintOf "+what, others, ok)
}

// failsWithManyHinted calls all functions that take locks of at most MaxHinted codes, and expects each one to fail.
func failsWithManyHinted(t *testing.T, what string, l impl.Lock, hints []impl.Hint) {
	t.Helper()
	guess, worst, ok := impl.BestGuess(l, hints)
	failsBest(t, "BestGuess "+what, guess, worst, ok)
	n, ok := impl.MostGuesses(l)
	fails(t, "MostGuesses "+what, n, ok)
	codes, ok := impl.HardestCodes(l)
	failsList(t, "HardestCodes "+what, codes, ok)
	rows, ok := impl.PossibleHints(l)
	failsList(t, "PossibleHints "+what, rows, ok)
}
