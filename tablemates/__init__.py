"""Tablemates: a spreadsheet that several people edit apart, with evidence for what it shows."""
