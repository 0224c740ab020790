package note

import (
	"continuo/api"
)

const (
	firstStatus = 0x80
	beginText   = 0xF0
	endText     = 0xF7
	firstClock  = 0xF8
)

// kind is what the events of a kind have: their status byte with the channel 0, how many bytes stand behind it
// (but for those of a text), the most that an event's numbers and its text can be, and what reads its bytes.
type kind struct {
	status              byte
	body                int
	channel, a, b, text int
	read                func(n api.Note, low int, body []byte) api.Note
}

func kinds() [api.NClock + 1]kind {
	return [...]kind{
		api.NOff:     {0x80, 2, maxChannel, maxKey, maxKey, 0, readTwo},
		api.NOn:      {0x90, 2, maxChannel, maxKey, maxKey, 0, readOn},
		api.NPress:   {0xA0, 2, maxChannel, maxKey, maxKey, 0, readTwo},
		api.NControl: {0xB0, 2, maxChannel, maxKey, maxKey, 0, readTwo},
		api.NProgram: {0xC0, 1, maxChannel, maxKey, 0, 0, readOne},
		api.NTouch:   {0xD0, 1, maxChannel, maxKey, 0, 0, readOne},
		api.NBend:    {0xE0, 2, maxChannel, maxKey, maxKey, 0, readTwo},
		api.NSystem:  {beginText, 0, 0, 0, 0, maxText, readText},
		api.NClock:   {firstClock, 0, 0, 7, 0, 0, readClock},
	}
}

func readOne(n api.Note, low int, body []byte) api.Note {
	n.Channel, n.A = low, int(body[0])
	return n
}

func readTwo(n api.Note, low int, body []byte) api.Note {
	n.Channel, n.A, n.B = low, int(body[0]), int(body[1])
	return n
}

// readOn reads an On that is silent as an Off.
func readOn(n api.Note, low int, body []byte) api.Note {
	n = readTwo(n, low, body)
	if n.B == 0 {
		n.Kind = api.NOff
	}
	return n
}

func readText(n api.Note, _ int, body []byte) api.Note {
	n.Text = string(body)
	return n
}

func readClock(n api.Note, low int, _ []byte) api.Note {
	n.A = low & 0x07
	return n
}

// read returns the event that a status byte and what stands behind it tell.
func read(status byte, body []byte) api.Note {
	k := kindOf(status)
	return kinds()[k].read(api.Note{Kind: k}, int(status&0x0F), body)
}

// kindOf tells the kind of a status byte with which an event begins.
func kindOf(status byte) int {
	if status >= firstClock {
		return api.NClock
	}
	return int(status>>4) - 0x08 + api.NOff
}

// begins reports whether an event of more than one byte begins with a byte.
func begins(b byte) bool { return b >= firstStatus && b <= beginText }

// status is the first byte of an event.
func status(n api.Note) byte {
	first := kinds()[n.Kind].status + byte(n.Channel)
	if n.Kind == api.NClock {
		first += byte(n.A)
	}
	return first
}

// body are the bytes of an event behind the first one.
func body(n api.Note) string {
	if n.Kind == api.NSystem {
		return n.Text + string([]byte{endText})
	}
	both := []byte{byte(n.A), byte(n.B)}
	return string(both[:kinds()[n.Kind].body])
}
