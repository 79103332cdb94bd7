package timer

// count: of what passed, which stops at its limit.
type count struct {
	passed, limit int
}

// begin: nothing passed, of a new limit.
func (c *count) begin(limit int) {
	c.passed, c.limit = 0, limit
}

// step: one more passed, unless the count has stopped.
func (c *count) step() {
	if !c.stopped() {
		c.passed++
	}
}

func (c *count) stopped() bool {
	return c.passed >= c.limit
}
