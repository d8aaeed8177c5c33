/- Appending one line, rule, zone, link, era to a row of the call's own (by program). -/
import Derived.Test.YtkcbmnboccjnnaaGreatDoorRw
import Derived.Deep.AppendLies
import Derived.Deep.RegionHeld3
import Derived.Deep.RegionLaw
namespace Go.Proofs.YtkcbmnboccjnnaaGreatDoor
open Go.RowKit
theorem line_info : (Tryz.prog.info? 74).map (fun i => (i.zero, i.size, i.bytes)) = some (some (.agg #[.int .i64 0, .slice none 0 0]), 2, 32) := by kernel_rfl
theorem wpList_ap_line {w : World} {ops : Array Oper} {rest : List Oper} {o : Oper} {a : Act} {Q : Exit → Act → World → Prop} (hgd : o.guard = none) (s x : Operand)
    (ho : o.op = .call { callee := .builtin .append, args := #[s, x], argTypes := #[67, 67] }) (base : Nat) (v : Value) (n : Nat) (xs : List Value) (hs : a.eval s = v) (hown : w.ownsRow base 74 2 v n xs)
    (gx cx : Nat) (news : List Value) (hx : a.eval x = .slice (some ⟨gx, 0, none⟩) 1 cx) (hl : news.length = 2) (hc : ∀ j u, news[j]? = some u → w.cell? ⟨gx, j, none⟩ = some u) (h1 : ∀ u ∈ news, u.oneCell' = true) (hn : n ≤ 4294967296) (hbase : base ≤ w.heap.size)
    (h : ∀ g cap w', w'.ownsRow base 74 2 (.slice (some ⟨g, 0, none⟩) (n + 1) cap) (n + 1) (xs ++ news) → w.grownBy w' v.ownBlock → (v.ownBlock = some g ∨ g = w.heap.size) → g < w'.heap.size → wpList Tryz.prog ops Q rest (a.put o.dst (.slice (some ⟨g, 0, none⟩) (n + 1) cap)) w') : wpList Tryz.prog ops Q (o :: rest) a w := by
  obtain ⟨i0, hi, hz0, hz1, hz2⟩ := info_parts line_info
  exact wpList_append_lies w hgd s x 67 ho base 74 i0 _ 2 32 Tryz.underlying67 hi hz0 hz1 hz2 rfl (by omega) v n xs hs hown ⟨gx, 0, none⟩ 1 cx news hx (by rw [hl]) (fun j u hu => by rw [addr_add]; exact hc j u hu) h1 (by omega) (by unfold maxLen; omega) (by omega) hbase _ rfl h
theorem step_ap_line {w : World} {ops : Array Oper} {o : Oper} {a : Act} {K : Act → World → Prop} {Q : Exit → Act → World → Prop} {E : Prop} (hgd : o.guard = none) (s x : Operand)
    (ho : o.op = .call { callee := .builtin .append, args := #[s, x], argTypes := #[67, 67] }) (base : Nat) (v : Value) (n : Nat) (xs : List Value) (hs : a.eval s = v) (hown : w.ownsRow base 74 2 v n xs)
    (gx cx : Nat) (news : List Value) (hx : a.eval x = .slice (some ⟨gx, 0, none⟩) 1 cx) (hl : news.length = 2) (hc : ∀ j u, news[j]? = some u → w.cell? ⟨gx, j, none⟩ = some u) (h1 : ∀ u ∈ news, u.oneCell' = true) (hn : n ≤ 4294967296) (hbase : base ≤ w.heap.size)
    (h : ∀ g cap w', w'.ownsRow base 74 2 (.slice (some ⟨g, 0, none⟩) (n + 1) cap) (n + 1) (xs ++ news) → w.grownBy w' v.ownBlock → (v.ownBlock = some g ∨ g = w.heap.size) → g < w'.heap.size → K (a.put o.dst (.slice (some ⟨g, 0, none⟩) (n + 1) cap)) w') : if Region.wanted o (yielded ops a.tmps) = true then Oper.wp Tryz.prog o a w K Q else E := by
  obtain ⟨i0, hi, hz0, hz1, hz2⟩ := info_parts line_info
  exact step_append_lies w hgd s x 67 ho base 74 i0 _ 2 32 Tryz.underlying67 hi hz0 hz1 hz2 rfl (by omega) v n xs hs hown ⟨gx, 0, none⟩ 1 cx news hx (by rw [hl]) (fun j u hu => by rw [addr_add]; exact hc j u hu) h1 (by omega) (by unfold maxLen; omega) (by omega) hbase _ rfl h
theorem rule_info : (Tryz.prog.info? 48).map (fun i => (i.zero, i.size, i.bytes)) = some (some (.agg #[.string ⟨#[]⟩, .int .i64 0, .int .i64 0, .int .i64 0, .int .u8 0, .int .i64 0, .int .i64 0, .int .i64 0, .int .u8 0, .int .i64 0, .string ⟨#[]⟩]), 11, 104) := by kernel_rfl
theorem wpList_ap_rule {w : World} {ops : Array Oper} {rest : List Oper} {o : Oper} {a : Act} {Q : Exit → Act → World → Prop} (hgd : o.guard = none) (s x : Operand)
    (ho : o.op = .call { callee := .builtin .append, args := #[s, x], argTypes := #[23, 23] }) (base : Nat) (v : Value) (n : Nat) (xs : List Value) (hs : a.eval s = v) (hown : w.ownsRow base 48 11 v n xs)
    (gx cx : Nat) (news : List Value) (hx : a.eval x = .slice (some ⟨gx, 0, none⟩) 1 cx) (hl : news.length = 11) (hc : ∀ j u, news[j]? = some u → w.cell? ⟨gx, j, none⟩ = some u) (h1 : ∀ u ∈ news, u.oneCell' = true) (hn : n ≤ 4294967296) (hbase : base ≤ w.heap.size)
    (h : ∀ g cap w', w'.ownsRow base 48 11 (.slice (some ⟨g, 0, none⟩) (n + 1) cap) (n + 1) (xs ++ news) → w.grownBy w' v.ownBlock → (v.ownBlock = some g ∨ g = w.heap.size) → g < w'.heap.size → wpList Tryz.prog ops Q rest (a.put o.dst (.slice (some ⟨g, 0, none⟩) (n + 1) cap)) w') : wpList Tryz.prog ops Q (o :: rest) a w := by
  obtain ⟨i0, hi, hz0, hz1, hz2⟩ := info_parts rule_info
  exact wpList_append_lies w hgd s x 23 ho base 48 i0 _ 11 104 Tryz.underlying23 hi hz0 hz1 hz2 rfl (by omega) v n xs hs hown ⟨gx, 0, none⟩ 1 cx news hx (by rw [hl]) (fun j u hu => by rw [addr_add]; exact hc j u hu) h1 (by omega) (by unfold maxLen; omega) (by omega) hbase _ rfl h
theorem step_ap_rule {w : World} {ops : Array Oper} {o : Oper} {a : Act} {K : Act → World → Prop} {Q : Exit → Act → World → Prop} {E : Prop} (hgd : o.guard = none) (s x : Operand)
    (ho : o.op = .call { callee := .builtin .append, args := #[s, x], argTypes := #[23, 23] }) (base : Nat) (v : Value) (n : Nat) (xs : List Value) (hs : a.eval s = v) (hown : w.ownsRow base 48 11 v n xs)
    (gx cx : Nat) (news : List Value) (hx : a.eval x = .slice (some ⟨gx, 0, none⟩) 1 cx) (hl : news.length = 11) (hc : ∀ j u, news[j]? = some u → w.cell? ⟨gx, j, none⟩ = some u) (h1 : ∀ u ∈ news, u.oneCell' = true) (hn : n ≤ 4294967296) (hbase : base ≤ w.heap.size)
    (h : ∀ g cap w', w'.ownsRow base 48 11 (.slice (some ⟨g, 0, none⟩) (n + 1) cap) (n + 1) (xs ++ news) → w.grownBy w' v.ownBlock → (v.ownBlock = some g ∨ g = w.heap.size) → g < w'.heap.size → K (a.put o.dst (.slice (some ⟨g, 0, none⟩) (n + 1) cap)) w') : if Region.wanted o (yielded ops a.tmps) = true then Oper.wp Tryz.prog o a w K Q else E := by
  obtain ⟨i0, hi, hz0, hz1, hz2⟩ := info_parts rule_info
  exact step_append_lies w hgd s x 23 ho base 48 i0 _ 11 104 Tryz.underlying23 hi hz0 hz1 hz2 rfl (by omega) v n xs hs hown ⟨gx, 0, none⟩ 1 cx news hx (by rw [hl]) (fun j u hu => by rw [addr_add]; exact hc j u hu) h1 (by omega) (by unfold maxLen; omega) (by omega) hbase _ rfl h
theorem zone_info : (Tryz.prog.info? 52).map (fun i => (i.zero, i.size, i.bytes)) = some (some (.agg #[.string ⟨#[]⟩, .slice none 0 0]), 2, 40) := by kernel_rfl
theorem wpList_ap_zone {w : World} {ops : Array Oper} {rest : List Oper} {o : Oper} {a : Act} {Q : Exit → Act → World → Prop} (hgd : o.guard = none) (s x : Operand)
    (ho : o.op = .call { callee := .builtin .append, args := #[s, x], argTypes := #[24, 24] }) (base : Nat) (v : Value) (n : Nat) (xs : List Value) (hs : a.eval s = v) (hown : w.ownsRow base 52 2 v n xs)
    (gx cx : Nat) (news : List Value) (hx : a.eval x = .slice (some ⟨gx, 0, none⟩) 1 cx) (hl : news.length = 2) (hc : ∀ j u, news[j]? = some u → w.cell? ⟨gx, j, none⟩ = some u) (h1 : ∀ u ∈ news, u.oneCell' = true) (hn : n ≤ 4294967296) (hbase : base ≤ w.heap.size)
    (h : ∀ g cap w', w'.ownsRow base 52 2 (.slice (some ⟨g, 0, none⟩) (n + 1) cap) (n + 1) (xs ++ news) → w.grownBy w' v.ownBlock → (v.ownBlock = some g ∨ g = w.heap.size) → g < w'.heap.size → wpList Tryz.prog ops Q rest (a.put o.dst (.slice (some ⟨g, 0, none⟩) (n + 1) cap)) w') : wpList Tryz.prog ops Q (o :: rest) a w := by
  obtain ⟨i0, hi, hz0, hz1, hz2⟩ := info_parts zone_info
  exact wpList_append_lies w hgd s x 24 ho base 52 i0 _ 2 40 Tryz.underlying24 hi hz0 hz1 hz2 rfl (by omega) v n xs hs hown ⟨gx, 0, none⟩ 1 cx news hx (by rw [hl]) (fun j u hu => by rw [addr_add]; exact hc j u hu) h1 (by omega) (by unfold maxLen; omega) (by omega) hbase _ rfl h
theorem step_ap_zone {w : World} {ops : Array Oper} {o : Oper} {a : Act} {K : Act → World → Prop} {Q : Exit → Act → World → Prop} {E : Prop} (hgd : o.guard = none) (s x : Operand)
    (ho : o.op = .call { callee := .builtin .append, args := #[s, x], argTypes := #[24, 24] }) (base : Nat) (v : Value) (n : Nat) (xs : List Value) (hs : a.eval s = v) (hown : w.ownsRow base 52 2 v n xs)
    (gx cx : Nat) (news : List Value) (hx : a.eval x = .slice (some ⟨gx, 0, none⟩) 1 cx) (hl : news.length = 2) (hc : ∀ j u, news[j]? = some u → w.cell? ⟨gx, j, none⟩ = some u) (h1 : ∀ u ∈ news, u.oneCell' = true) (hn : n ≤ 4294967296) (hbase : base ≤ w.heap.size)
    (h : ∀ g cap w', w'.ownsRow base 52 2 (.slice (some ⟨g, 0, none⟩) (n + 1) cap) (n + 1) (xs ++ news) → w.grownBy w' v.ownBlock → (v.ownBlock = some g ∨ g = w.heap.size) → g < w'.heap.size → K (a.put o.dst (.slice (some ⟨g, 0, none⟩) (n + 1) cap)) w') : if Region.wanted o (yielded ops a.tmps) = true then Oper.wp Tryz.prog o a w K Q else E := by
  obtain ⟨i0, hi, hz0, hz1, hz2⟩ := info_parts zone_info
  exact step_append_lies w hgd s x 24 ho base 52 i0 _ 2 40 Tryz.underlying24 hi hz0 hz1 hz2 rfl (by omega) v n xs hs hown ⟨gx, 0, none⟩ 1 cx news hx (by rw [hl]) (fun j u hu => by rw [addr_add]; exact hc j u hu) h1 (by omega) (by unfold maxLen; omega) (by omega) hbase _ rfl h
theorem link_info : (Tryz.prog.info? 57).map (fun i => (i.zero, i.size, i.bytes)) = some (some (.agg #[.string ⟨#[]⟩, .string ⟨#[]⟩]), 2, 32) := by kernel_rfl
theorem wpList_ap_link {w : World} {ops : Array Oper} {rest : List Oper} {o : Oper} {a : Act} {Q : Exit → Act → World → Prop} (hgd : o.guard = none) (s x : Operand)
    (ho : o.op = .call { callee := .builtin .append, args := #[s, x], argTypes := #[25, 25] }) (base : Nat) (v : Value) (n : Nat) (xs : List Value) (hs : a.eval s = v) (hown : w.ownsRow base 57 2 v n xs)
    (gx cx : Nat) (news : List Value) (hx : a.eval x = .slice (some ⟨gx, 0, none⟩) 1 cx) (hl : news.length = 2) (hc : ∀ j u, news[j]? = some u → w.cell? ⟨gx, j, none⟩ = some u) (h1 : ∀ u ∈ news, u.oneCell' = true) (hn : n ≤ 4294967296) (hbase : base ≤ w.heap.size)
    (h : ∀ g cap w', w'.ownsRow base 57 2 (.slice (some ⟨g, 0, none⟩) (n + 1) cap) (n + 1) (xs ++ news) → w.grownBy w' v.ownBlock → (v.ownBlock = some g ∨ g = w.heap.size) → g < w'.heap.size → wpList Tryz.prog ops Q rest (a.put o.dst (.slice (some ⟨g, 0, none⟩) (n + 1) cap)) w') : wpList Tryz.prog ops Q (o :: rest) a w := by
  obtain ⟨i0, hi, hz0, hz1, hz2⟩ := info_parts link_info
  exact wpList_append_lies w hgd s x 25 ho base 57 i0 _ 2 32 Tryz.underlying25 hi hz0 hz1 hz2 rfl (by omega) v n xs hs hown ⟨gx, 0, none⟩ 1 cx news hx (by rw [hl]) (fun j u hu => by rw [addr_add]; exact hc j u hu) h1 (by omega) (by unfold maxLen; omega) (by omega) hbase _ rfl h
theorem step_ap_link {w : World} {ops : Array Oper} {o : Oper} {a : Act} {K : Act → World → Prop} {Q : Exit → Act → World → Prop} {E : Prop} (hgd : o.guard = none) (s x : Operand)
    (ho : o.op = .call { callee := .builtin .append, args := #[s, x], argTypes := #[25, 25] }) (base : Nat) (v : Value) (n : Nat) (xs : List Value) (hs : a.eval s = v) (hown : w.ownsRow base 57 2 v n xs)
    (gx cx : Nat) (news : List Value) (hx : a.eval x = .slice (some ⟨gx, 0, none⟩) 1 cx) (hl : news.length = 2) (hc : ∀ j u, news[j]? = some u → w.cell? ⟨gx, j, none⟩ = some u) (h1 : ∀ u ∈ news, u.oneCell' = true) (hn : n ≤ 4294967296) (hbase : base ≤ w.heap.size)
    (h : ∀ g cap w', w'.ownsRow base 57 2 (.slice (some ⟨g, 0, none⟩) (n + 1) cap) (n + 1) (xs ++ news) → w.grownBy w' v.ownBlock → (v.ownBlock = some g ∨ g = w.heap.size) → g < w'.heap.size → K (a.put o.dst (.slice (some ⟨g, 0, none⟩) (n + 1) cap)) w') : if Region.wanted o (yielded ops a.tmps) = true then Oper.wp Tryz.prog o a w K Q else E := by
  obtain ⟨i0, hi, hz0, hz1, hz2⟩ := info_parts link_info
  exact step_append_lies w hgd s x 25 ho base 57 i0 _ 2 32 Tryz.underlying25 hi hz0 hz1 hz2 rfl (by omega) v n xs hs hown ⟨gx, 0, none⟩ 1 cx news hx (by rw [hl]) (fun j u hu => by rw [addr_add]; exact hc j u hu) h1 (by omega) (by unfold maxLen; omega) (by omega) hbase _ rfl h
theorem era_info : (Tryz.prog.info? 65).map (fun i => (i.zero, i.size, i.bytes)) = some (some (.agg #[.int .i64 0, .int .u8 0, .int .i64 0, .string ⟨#[]⟩, .string ⟨#[]⟩, .bool false, .int .i64 0, .int .i64 0, .int .u8 0, .int .i64 0, .int .i64 0, .int .i64 0, .int .u8 0]), 13, 120) := by kernel_rfl
theorem wpList_ap_era {w : World} {ops : Array Oper} {rest : List Oper} {o : Oper} {a : Act} {Q : Exit → Act → World → Prop} (hgd : o.guard = none) (s x : Operand)
    (ho : o.op = .call { callee := .builtin .append, args := #[s, x], argTypes := #[50, 50] }) (base : Nat) (v : Value) (n : Nat) (xs : List Value) (hs : a.eval s = v) (hown : w.ownsRow base 65 13 v n xs)
    (gx cx : Nat) (news : List Value) (hx : a.eval x = .slice (some ⟨gx, 0, none⟩) 1 cx) (hl : news.length = 13) (hc : ∀ j u, news[j]? = some u → w.cell? ⟨gx, j, none⟩ = some u) (h1 : ∀ u ∈ news, u.oneCell' = true) (hn : n ≤ 4294967296) (hbase : base ≤ w.heap.size)
    (h : ∀ g cap w', w'.ownsRow base 65 13 (.slice (some ⟨g, 0, none⟩) (n + 1) cap) (n + 1) (xs ++ news) → w.grownBy w' v.ownBlock → (v.ownBlock = some g ∨ g = w.heap.size) → g < w'.heap.size → wpList Tryz.prog ops Q rest (a.put o.dst (.slice (some ⟨g, 0, none⟩) (n + 1) cap)) w') : wpList Tryz.prog ops Q (o :: rest) a w := by
  obtain ⟨i0, hi, hz0, hz1, hz2⟩ := info_parts era_info
  exact wpList_append_lies w hgd s x 50 ho base 65 i0 _ 13 120 Tryz.underlying50 hi hz0 hz1 hz2 rfl (by omega) v n xs hs hown ⟨gx, 0, none⟩ 1 cx news hx (by rw [hl]) (fun j u hu => by rw [addr_add]; exact hc j u hu) h1 (by omega) (by unfold maxLen; omega) (by omega) hbase _ rfl h
theorem step_ap_era {w : World} {ops : Array Oper} {o : Oper} {a : Act} {K : Act → World → Prop} {Q : Exit → Act → World → Prop} {E : Prop} (hgd : o.guard = none) (s x : Operand)
    (ho : o.op = .call { callee := .builtin .append, args := #[s, x], argTypes := #[50, 50] }) (base : Nat) (v : Value) (n : Nat) (xs : List Value) (hs : a.eval s = v) (hown : w.ownsRow base 65 13 v n xs)
    (gx cx : Nat) (news : List Value) (hx : a.eval x = .slice (some ⟨gx, 0, none⟩) 1 cx) (hl : news.length = 13) (hc : ∀ j u, news[j]? = some u → w.cell? ⟨gx, j, none⟩ = some u) (h1 : ∀ u ∈ news, u.oneCell' = true) (hn : n ≤ 4294967296) (hbase : base ≤ w.heap.size)
    (h : ∀ g cap w', w'.ownsRow base 65 13 (.slice (some ⟨g, 0, none⟩) (n + 1) cap) (n + 1) (xs ++ news) → w.grownBy w' v.ownBlock → (v.ownBlock = some g ∨ g = w.heap.size) → g < w'.heap.size → K (a.put o.dst (.slice (some ⟨g, 0, none⟩) (n + 1) cap)) w') : if Region.wanted o (yielded ops a.tmps) = true then Oper.wp Tryz.prog o a w K Q else E := by
  obtain ⟨i0, hi, hz0, hz1, hz2⟩ := info_parts era_info
  exact step_append_lies w hgd s x 50 ho base 65 i0 _ 13 120 Tryz.underlying50 hi hz0 hz1 hz2 rfl (by omega) v n xs hs hown ⟨gx, 0, none⟩ 1 cx news hx (by rw [hl]) (fun j u hu => by rw [addr_add]; exact hc j u hu) h1 (by omega) (by unfold maxLen; omega) (by omega) hbase _ rfl h
end Go.Proofs.YtkcbmnboccjnnaaGreatDoor
