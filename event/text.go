package event

import (
	"strconv"
	"strings"

	"cohesion/api"
)

const (
	maxDigits  = 7 // digits of a number
	maxNumbers = 5 // numbers of a line
)

// kindWords are the first words of the lines, each at the index of its kind; no kind is 0.
var kindWords = [...]string{api.EvSet: "set", api.EvCut: "cut", api.EvLeave: "leave"}

// Print returns events as lines of text.
func Print(l []api.Event) (string, api.Errno) {
	if err := checkList(l); err != api.OK {
		return "", err
	}
	var text strings.Builder
	for _, e := range l {
		text.WriteString(strings.Join(wordsOf(e), " "))
		text.WriteByte('\n')
	}
	return text.String(), api.OK
}

// wordsOf returns the words of the line of a valid event.
func wordsOf(e api.Event) []string {
	words := []string{kindWords[e.Kind], strconv.Itoa(e.Time), strconv.Itoa(e.U)}
	if e.Kind == api.EvLeave {
		return words
	}
	words = append(words, strconv.Itoa(e.V))
	if e.Kind == api.EvCut {
		return words
	}
	return append(words, strconv.Itoa(e.Weight), strconv.Itoa(e.Label), signWord(e.Sign))
}

func signWord(sign int) string {
	if sign == -1 {
		return "-"
	}
	return "+"
}

// Parse returns the events of a text and 0, or the number of its first line that is wrong, if a line is.
func Parse(s string) ([]api.Event, int, api.Errno) {
	if len(s) > api.MaxText {
		return nil, 0, api.ErrLimit
	}
	lines := strings.Split(s, "\n")
	if countLinesWithWords(lines) > api.MaxEvents {
		return nil, 0, api.ErrLimit
	}
	var l []api.Event
	for i, line := range lines {
		words := wordsIn(line)
		if len(words) == 0 {
			continue
		}
		e, err := fromWords(words)
		if err != api.OK {
			return nil, i + 1, err
		}
		l = append(l, e)
	}
	return l, 0, api.OK
}

func countLinesWithWords(lines []string) int {
	count := 0
	for _, line := range lines {
		if strings.Trim(line, " ") != "" {
			count++
		}
	}
	return count
}

// wordsIn returns what a line has between its spaces. No other byte separates words, so that each other one belongs to a word.
func wordsIn(line string) []string {
	var words []string
	start := 0
	for end := 0; end <= len(line); end++ {
		if end < len(line) && line[end] != ' ' {
			continue
		}
		if start < end {
			words = append(words, line[start:end])
		}
		start = end + 1
	}
	return words
}

// fromWords returns the event of a line with words, or the line's error.
func fromWords(words []string) (api.Event, api.Errno) {
	e, ok := readEvent(words[0], words[1:])
	if !ok {
		return api.Event{}, api.ErrText
	}
	if err := Check(e); err != api.OK {
		return api.Event{}, err
	}
	return e, api.OK
}

// readEvent returns the event, valid or not, for which the words of a line stand, and whether the line has the form of its kind.
func readEvent(kind string, words []string) (api.Event, bool) {
	switch kind {
	case kindWords[api.EvSet]:
		return readSet(words)
	case kindWords[api.EvCut]:
		n, ok := readNumbers(words, 3)
		return api.Event{Kind: api.EvCut, Time: n[0], U: n[1], V: n[2]}, ok
	case kindWords[api.EvLeave]:
		n, ok := readNumbers(words, 2)
		return api.Event{Kind: api.EvLeave, Time: n[0], U: n[1]}, ok
	}
	return api.Event{}, false
}

// readSet returns the event for which the words behind "set" stand: the numbers, and a sign as the last one.
func readSet(words []string) (api.Event, bool) {
	if len(words) != maxNumbers+1 {
		return api.Event{}, false
	}
	n, areNumbers := readNumbers(words[:maxNumbers], maxNumbers)
	sign, isSign := readSign(words[maxNumbers])
	return api.Event{
		Kind: api.EvSet, Time: n[0], U: n[1], V: n[2], Weight: n[3], Label: n[4], Sign: sign,
	}, areNumbers && isSign
}

// readNumbers returns the numbers for which words stand, and whether there are so many words and all of them are numbers.
func readNumbers(words []string, count int) ([maxNumbers]int, bool) {
	var numbers [maxNumbers]int
	if len(words) != count {
		return numbers, false
	}
	for i, word := range words {
		n, ok := readNumber(word)
		if !ok {
			return numbers, false
		}
		numbers[i] = n
	}
	return numbers, true
}

// readNumber returns the number for which a word stands, and whether the word is one: the digits are few enough for any int.
func readNumber(word string) (int, bool) {
	if len(word) == 0 || len(word) > maxDigits {
		return 0, false
	}
	n := 0
	for i := range len(word) {
		digit := word[i]
		if digit < '0' || digit > '9' {
			return 0, false
		}
		n = 10*n + int(digit-'0')
	}
	return n, true
}

func readSign(word string) (int, bool) {
	switch word {
	case "+":
		return 1, true
	case "-":
		return -1, true
	}
	return 0, false
}
