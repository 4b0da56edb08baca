package conf

import (
	"strconv"
	"strings"

	"hustings/api"
	"hustings/name"
	"hustings/text"
)

const (
	wordZone  = "zone"
	maxTrust  = 15 // the greatest upstream that a zone's trust has a bit for
	trustBits = maxTrust + 1
)

// settings are the words of the first lines, in order.
var settings = [...]string{"ups", "deadline", "hedge", "wait", "tries", "rest", "limit", "cache", "flights", "waiters", "ttl", "size"}

// fields returns what the first lines are about, in order.
func fields(c *api.Config) [len(settings)]*int {
	return [...]*int{&c.Ups, &c.Deadline, &c.Hedge, &c.Wait, &c.Tries, &c.Rest, &c.Limit, &c.Cache, &c.Flights, &c.Waiters, &c.TTL, &c.Size}
}

// policyOf returns the policy of a word, 0 for none.
func policyOf(word string) uint8 {
	switch word {
	case "strict":
		return api.Strict
	case "union":
		return api.Union
	case "trusted":
		return api.Trusted
	case "refuse":
		return api.Refuse
	}
	return 0
}

func wordOf(policy uint8) string {
	switch policy {
	case api.Strict:
		return "strict"
	case api.Union:
		return "union"
	case api.Trusted:
		return "trusted"
	}
	return "refuse"
}

// Show returns the text of a configuration.
func Show(c api.Config) (string, api.Errno) {
	if e := May(c); e != api.OK {
		return "", e
	}
	var b strings.Builder
	for i, field := range fields(&c) {
		b.WriteString(settings[i] + " " + strconv.Itoa(*field) + "\n")
	}
	for _, z := range c.Zones {
		b.WriteString(wordZone + " " + name.Text(z.Name) + " " + wordOf(z.Policy))
		for u := range trustBits {
			if z.Trust>>u&1 == 1 {
				b.WriteString(" " + strconv.Itoa(u))
			}
		}
		b.WriteString("\n")
	}
	return b.String(), api.OK
}

// setting is what one of the first lines contains.
type setting struct {
	word   string
	number int
}

// zoned is what the line of a zone contains.
type zoned struct {
	zone api.Zone
}

// contents returns a setting or a zoned; nil if a line can be neither.
func contents(line string) any {
	words := strings.Split(line, " ")
	if words[0] == wordZone {
		if z, is := zoneOf(words[1:]); is {
			return zoned{z}
		}
		return nil
	}
	if len(words) != 2 {
		return nil
	}
	n, is := text.Number(words[1], api.MaxInt)
	if !is {
		return nil
	}
	return setting{word: words[0], number: int(n)}
}

// zoneOf returns the zone that the words after the first one describe.
func zoneOf(words []string) (api.Zone, bool) {
	if len(words) < 2 {
		return api.Zone{}, false
	}
	n, e := name.Parse(words[0])
	if e != api.OK || name.Text(n) != words[0] {
		return api.Zone{}, false
	}
	z := api.Zone{Name: n, Policy: policyOf(words[1])}
	trusted := words[2:]
	if z.Policy == 0 || (z.Policy == api.Trusted) != (len(trusted) > 0) {
		return api.Zone{}, false
	}
	for _, word := range trusted {
		u, is := text.Number(word, maxTrust)
		// They increase, so no bit may be set from this one on.
		if !is || z.Trust>>u != 0 {
			return api.Zone{}, false
		}
		z.Trust |= 1 << u
	}
	return z, true
}

// take takes over what line number at contains, and reports whether that may stand there.
func take(c *api.Config, at int, content any) bool {
	if at <= len(settings) {
		x, is := content.(setting)
		if !is || x.word != settings[at-1] {
			return false
		}
		*fields(c)[at-1] = x.number
		return true
	}
	x, is := content.(zoned)
	if is {
		c.Zones = append(c.Zones, x.zone)
	}
	return is
}

// Parse returns the configuration of a text, or the line and the error.
func Parse(s string) (c api.Config, line int, e api.Errno) {
	if len(s) > api.MaxScript {
		return api.Config{}, 0, api.ErrLong
	}
	at := 0
	for l, ended := range text.Lines(s) {
		at++
		if !ended || !take(&c, at, contents(l)) {
			return api.Config{}, at, api.ErrForm
		}
	}
	if at < len(settings) {
		return api.Config{}, at + 1, api.ErrForm
	}
	if e := May(c); e != api.OK {
		return api.Config{}, 0, e
	}
	return c, 0, api.OK
}
