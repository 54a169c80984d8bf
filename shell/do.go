package shell

import (
	"bytes"
	"strconv"
	"strings"

	"weir/cell"
	"weir/check"
	"weir/engine"
	"weir/key"
	"weir/parse"
	"weir/span"
)

// begin makes an engine.
func (c *call) begin() string {
	tables, err := check.Parse(lined(c.texts))
	if err != nil {
		return told(err)
	}
	e, err := engine.New(tables, int(c.numbers[0]), int(c.numbers[1]))
	if err == nil {
		c.known[c.fresh] = e
	}
	return told(err)
}

func (c *call) fork() string {
	c.known[c.fresh] = c.engines[0].Fork()
	return told(nil)
}

func (c *call) plain() string {
	c.engines[0].Plain(true)
	return told(nil)
}

func (c *call) best() string {
	c.engines[0].Plain(false)
	return told(nil)
}

func (c *call) register() string { return counted(c.engines[0].Register(c.texts[0])) }

func (c *call) drop() string { return told(c.engines[0].Drop(int(c.numbers[0]))) }

func (c *call) write() string { return counted(c.engines[0].Write(lined(c.texts))) }

func (c *call) remove() string {
	return counted(c.engines[0].Delete(c.texts[0], c.texts[1], c.numbers[0], c.numbers[1]))
}

func (c *call) expire() string { return counted(c.engines[0].Expire(c.texts[0], c.numbers[0])) }

func (c *call) read() string {
	l, err := c.engines[0].Read(c.texts[0], c.texts[1], c.numbers[0], c.numbers[1])
	var samples []string
	for _, w := range l {
		samples = append(samples, key.Print(w.Series)+blank+strconv.FormatInt(w.Sample.Time, 10)+blank+valued(w.Sample.Value))
	}
	return listed(lined(samples), err)
}

// choose answers a query without a target.
func (c *call) choose() string {
	rows, err := c.engines[0].Select(c.texts[0])
	if err != nil {
		return told(err)
	}
	// What was answered is a query that fits: nothing is wrong with it.
	q, _ := parse.Query(c.texts[0])
	q, _ = check.Query(c.engines[0].Tables(), q)
	return listed(cell.Print(q, rows))
}

func (c *call) explain() string { return listed(c.engines[0].Explain(int(c.numbers[0]))) }

func (c *call) queries() string {
	var numbers []string
	for _, id := range c.engines[0].Queries() {
		numbers = append(numbers, strconv.Itoa(id))
	}
	if len(numbers) == 0 {
		return listed("", nil)
	}
	return lined([]string{strings.Join(numbers, blank)})
}

func (c *call) query() string {
	text, err := c.engines[0].Text(int(c.numbers[0]))
	return listed(text+lineFeed, err)
}

func (c *call) horizon() string {
	t, err := c.engines[0].Horizon(c.texts[0])
	return listed(span.Text(t)+lineFeed, err)
}

func (c *call) tables() string { return listed(check.Print(c.engines[0].Tables())) }

func (c *call) count() string {
	series, points := c.engines[0].Count()
	return strconv.Itoa(series) + blank + strconv.Itoa(points) + lineFeed
}

func (c *call) steps() string { return counted(c.engines[0].Steps(), nil) }

// pack writes an engine down and reads it.
func (c *call) pack() string {
	saved := c.engines[0].Save()
	e, err := engine.Load(saved)
	return listed("packed "+strconv.Itoa(len(saved))+blank+either(bytes.Equal(e.Save(), saved), "same", "other")+lineFeed, err)
}

func (c *call) even() string {
	return either(alike(c.engines[0], c.engines[1]), "even", "odd") + lineFeed
}
