"""How a part fits a voice."""
