package shell

import (
	"silkworm/api"
	"strconv"
	"strings"
)

const (
	sourceEnds  = "." // the line behind a source
	remarkBegin = "//"
	mostNumber  = 1_000_000_000
)

// refused is what a command throws when it gives up.
type refused api.Errno

// session is a script that is gone through, and what its commands have made so far.
type session struct {
	lines   []string // that are yet to come
	put     strings.Builder
	source  string
	sourced bool    // there is a source; it may be empty
	design  *design // nil: there is none
}

// commands are what each first word of a line does, the line's other words being told to it. A command looks at all that may refuse it ahead of changing anything.
func (s *session) commands() map[string]func(words []string) {
	return map[string]func(words []string){
		"source":  s.readSource,
		"build":   s.build,
		"set":     s.set,
		"run":     s.run,
		"conserv": s.conserv,
		"warp":    s.warp,
		"stats":   s.stats,
		"print":   s.printSource,
	}
}

// transcript is what all commands put out. It ends at the first one for which it has no room.
func (s *session) transcript() string {
	var all strings.Builder
	for len(s.lines) > 0 {
		words := wordsOf(s.line())
		if len(words) == 0 {
			continue
		}
		part := s.answer(words)
		if all.Len()+len(part) > api.MaxOut {
			all.WriteString(refusal(api.ErrLong))
			break
		}
		all.WriteString(part)
	}
	return all.String()
}

// line goes past one.
func (s *session) line() string {
	line := s.lines[0]
	s.lines = s.lines[1:]
	return line
}

// answer is what a command puts out, or that it is refused: then nothing of what it put out until then counts.
func (s *session) answer(words []string) (part string) {
	defer func() {
		if why, gaveUp := recover().(refused); gaveUp {
			part = refusal(api.Errno(why))
		}
	}()
	s.put.Reset()
	do, there := s.commands()[words[0]]
	if !there {
		giveUp(api.ErrLine)
	}
	do(words[1:])
	return s.put.String()
}

func refusal(e api.Errno) string {
	return "! " + strconv.Itoa(int(e)) + "\n"
}

func giveUp(e api.Errno) {
	panic(refused(e))
}

// demand gives up, if what was called refuses.
func demand(e api.Errno) {
	if e != api.OK {
		giveUp(e)
	}
}

// say puts words out, as a line.
func (s *session) say(words ...string) {
	s.put.WriteString(strings.Join(words, " "))
	s.put.WriteByte('\n')
}

// wordsOf is a line's words: none, if it is a remark.
func wordsOf(line string) []string {
	if strings.HasPrefix(line, remarkBegin) {
		return nil
	}
	return strings.FieldsFunc(line, func(r rune) bool { return r == ' ' })
}

// expect gives up, if a command has not so many words.
func expect(words []string, count int) {
	if len(words) != count {
		giveUp(api.ErrLine)
	}
}

// number is the number that a word is.
func number(word string) int {
	n, e := strconv.Atoi(word)
	if e != nil || n < 0 || n > mostNumber || strconv.Itoa(n) != word {
		giveUp(api.ErrLine)
	}
	return n
}
