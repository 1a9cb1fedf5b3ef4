package vcd_test

import (
	"fmt"
	"regexp"
	"silkworm/api"
	"strconv"
	"strings"
)

// The chapter's words told once more: codes by counting, dumps time by time, what is read by patterns.

// codes are those of all nets that there may be: their first digit goes on fastest.
var codes = counted()

func counted() []string {
	var out []string
	for low := '!'; low <= '~'; low++ {
		out = append(out, string(low))
	}
	for high := '!'; high <= '~'; high++ {
		for low := '!'; low <= '~'; low++ {
			out = append(out, string(low)+string(high))
		}
	}
	return out[:4096]
}

func valueLine(v, code string) string {
	if len(v) > 1 {
		return fmt.Sprintf("b%s %s\n", v, code)
	}
	return fmt.Sprintf("%s%s\n", v, code)
}

// told is the dump of a waveform that may be, however long it is.
func told(w api.Wave) string {
	var out strings.Builder
	out.WriteString(opening)
	for i, name := range w.Names {
		if len(name) == 0 {
			name = "_"
		}
		fmt.Fprintf(&out, "$var wire %d %s %s $end\n", w.Wides[i], codes[i], name)
	}
	out.WriteString(closing)
	for i, v := range w.First {
		out.WriteString(valueLine(v, codes[i]))
	}
	out.WriteString("$end\n")
	for rest := w.List; len(rest) > 0; {
		time := rest[0].Time
		fmt.Fprintf(&out, "#%d\n", time)
		for len(rest) > 0 && rest[0].Time == time {
			out.WriteString(valueLine(rest[0].Value, codes[rest[0].Net]))
			rest = rest[1:]
		}
	}
	return out.String()
}

const valuePattern = `(?:[01xz]|b[01xz]{2,} )[!-~]{1,2}\n`

var (
	dumpPattern = regexp.MustCompile(`\A` + regexp.QuoteMeta(opening) + `((?:\$var .*\n)*)` + regexp.QuoteMeta(closing) + `((?:` + valuePattern + `)*)\$end\n((?:#.*\n(?:` + valuePattern + `)+)*)\z`)
	netPattern  = regexp.MustCompile(`\A\$var wire ([1-9][0-9]{0,2}) ([!-~]{1,2}) ([!-~]{1,256}) \$end\z`)
	timePattern = regexp.MustCompile(`\A(?:0|[1-9][0-9]{0,18})\z`)
)

// linesIn is the lines of a text whose last one is ended.
func linesIn(text string) []string {
	list := strings.Split(text, "\n")
	return list[:len(list)-1]
}

// valueIn is the value and the code that a line tells.
func valueIn(line string) (v, code string) {
	if line[0] == 'b' {
		v, code, _ = strings.Cut(line[1:], " ")
		return v, code
	}
	return line[:1], line[1:]
}

// meant is the waveform whose dump some bytes are, if they are one.
func meant(s string) (api.Wave, bool) {
	parts := dumpPattern.FindStringSubmatch(s)
	if parts == nil {
		return api.Wave{}, false
	}
	var w api.Wave
	nets := linesIn(parts[1])
	for i, line := range nets {
		words := netPattern.FindStringSubmatch(line)
		if i >= 4096 || words == nil || words[2] != codes[i] {
			return api.Wave{}, false
		}
		wide, _ := strconv.Atoi(words[1])
		name := words[3]
		if name == "_" {
			name = ""
		}
		w.Names, w.Wides = append(w.Names, name), append(w.Wides, wide)
	}
	for i, line := range linesIn(parts[2]) {
		v, code := valueIn(line)
		if i >= len(nets) || code != codes[i] || len(v) != w.Wides[i] || len(v) > 256 {
			return api.Wave{}, false
		}
		w.First = append(w.First, v)
	}
	if len(w.First) != len(nets) || !changesIn(&w, linesIn(parts[3])) {
		return api.Wave{}, false
	}
	return w, true
}

// changesIn keeps the changes that lines tell, if they may be.
func changesIn(w *api.Wave, list []string) bool {
	numbers, values := map[string]int{}, map[string]string{}
	for i, code := range codes[:len(w.First)] {
		numbers[code], values[code] = i, w.First[i]
	}
	time, last := -1, -1
	for _, line := range list {
		if line[0] == '#' {
			n, e := strconv.Atoi(line[1:])
			if !timePattern.MatchString(line[1:]) || e != nil || n >= 1<<62 || n <= time {
				return false
			}
			time, last = n, -1
			continue
		}
		v, code := valueIn(line)
		net, there := numbers[code]
		if !there || net <= last || len(v) != w.Wides[net] || v == values[code] {
			return false
		}
		last, values[code] = net, v
		w.List = append(w.List, api.Change{Time: time, Net: net, Value: v})
	}
	return true
}
