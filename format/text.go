package format

import (
	"strconv"
	"strings"

	"continuo/api"
)

func mediaWords() map[int]string {
	return map[int]string{api.MAudio: "audio", api.MVideo: "video", api.MNotes: "notes"}
}

func keyWords() map[int]string {
	return map[int]string{
		api.KEncoding: "encoding",
		api.KRate:     "rate",
		api.KChannels: "channels",
		api.KWidth:    "width",
		api.KHeight:   "height",
		api.KModifier: "modifier",
	}
}

// meant returns the number from 1 on that has a word, 0 if none has it.
func meant(words map[int]string, word string) int {
	for n := 1; n <= len(words); n++ {
		if words[n] == word {
			return n
		}
	}
	return 0
}

// Text writes a format; it is the empty text for what is not valid.
func Text(f api.Format) string {
	if !Valid(f) {
		return ""
	}
	words := keyWords()
	out := mediaWords()[f.Media]
	for _, field := range f.Fields {
		out += " " + words[field.Key] + "=" + choiceText(field.Choice)
	}
	return out
}

func choiceText(c api.Choice) string {
	out := strconv.Itoa(c.Default)
	if c.Kind == api.COne {
		return out
	}
	var list []string
	for _, n := range c.List {
		list = append(list, strconv.Itoa(n))
	}
	switch c.Kind {
	case api.CRange:
		return out + " of " + list[0] + ".." + list[1]
	case api.CStep:
		return out + " of " + list[0] + ".." + list[1] + "/" + list[2]
	}
	return out + " of " + strings.Join(list, ",")
}

// Parse reads just such texts as Text writes.
func Parse(text string) (api.Format, api.Errno) {
	if len(text) > api.MaxText {
		return api.Format{}, api.ErrLong
	}
	f := read(text)
	if !Valid(f) || Text(f) != text {
		return api.Format{}, api.ErrSyntax
	}
	return f, api.OK
}

// read reads a text as far as it can; of a text that is wrong it makes a format that is not valid, or is written otherwise.
func read(text string) api.Format {
	parts := strings.Split(text, " ")
	f := api.Format{Media: meant(mediaWords(), parts[0])}
	keys := keyWords()
	for parts = parts[1:]; len(parts) > 0; {
		word, wished, _ := strings.Cut(parts[0], "=")
		c := one(readNumber(wished))
		parts = parts[1:]
		if len(parts) > 1 && parts[0] == "of" {
			c.Kind, c.List = readList(parts[1])
			parts = parts[2:]
		}
		f.Fields = append(f.Fields, api.Field{Key: meant(keys, word), Choice: c})
	}
	return f
}

// readList reads what stands behind `of`: a kind of choice, and its List.
func readList(text string) (int, []int) {
	least, behind, ok := strings.Cut(text, "..")
	if !ok {
		return api.CEnum, readNumbers(strings.Split(text, ","))
	}
	most, step, ok := strings.Cut(behind, "/")
	if !ok {
		return api.CRange, readNumbers([]string{least, most})
	}
	return api.CStep, readNumbers([]string{least, most, step})
}

func readNumbers(texts []string) []int {
	var out []int
	for _, text := range texts {
		out = append(out, readNumber(text))
	}
	return out
}

// readNumber returns -1, which no choice has, for what is no number.
func readNumber(text string) int {
	n, err := strconv.Atoi(text)
	if err != nil {
		return -1
	}
	return n
}
