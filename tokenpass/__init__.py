"""Tokens that say who one is, and till when. The calls are in tokenpass.tokens."""
