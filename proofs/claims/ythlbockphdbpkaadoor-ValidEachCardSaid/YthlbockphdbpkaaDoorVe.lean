/- A source with a zone more, or a rule; rows appended in a region that draws its order; no walk. -/
import Derived.Test.YthlbockphdbpkaaDoorSd1
import Derived.Test.YthlbockphdbpkaaDoorTk
import Derived.Test.YthlbockphdbpkaaDoorRn
namespace Go.Proofs.YthlbockphdbpkaaDoor
open Go.RowKit Go.Maps
set_option maxRecDepth 100000
theorem look_in {x t : ByteArray} : ∀ {K : List Lk}, Ld.look x K = some t → x ∈ K.map Lk.nm
  | [], h => by cases h
  | k :: l, h => by
    unfold Ld.look at h
    by_cases e : k.nm = x
    · exact List.mem_cons.2 (.inl e.symm)
    · rw [if_neg e] at h
      exact List.mem_cons.2 (.inr (look_in h))
theorem nx_zone {Z : List ByteArray} {K : List Lk} {x t z : ByteArray} (hz : z ∉ K.map Lk.nm) (h : Ld.nx Z K x = some t) : Ld.nx (Z ++ [z]) K x = some t := by
  unfold Ld.nx at h ⊢
  by_cases hx : Ld.inb x Z = true
  · rw [if_pos hx] at h; cases h
  · rw [if_neg hx] at h
    rw [if_neg, h]
    rw [inb_iff] at hx ⊢
    intro hm
    rcases List.mem_append.1 hm with hm | hm
    · exact hx hm
    · exact hz (List.mem_singleton.1 hm ▸ look_in h)
theorem it_zone {Z : List ByteArray} {K : List Lk} {e z : ByteArray} (hz : z ∉ K.map Lk.nm) : ∀ (n : Nat) (x : ByteArray), Ld.it Z K n x = e → ∃ m, Ld.it (Z ++ [z]) K m x = e
  | 0, x, h => ⟨0, h⟩
  | n + 1, x, h => by
    rw [it_succ'] at h
    cases hx : Ld.nx Z K x with
    | none =>
      rw [st_none hx, it_stuck hx] at h
      exact ⟨0, h⟩
    | some t =>
      rw [st_some hx] at h
      obtain ⟨m, hm⟩ := it_zone hz n t h
      exact ⟨m + 1, by rw [it_succ', st_some (nx_zone hz hx)]; exact hm⟩
theorem zn_zone {Z : List ByteArray} {K : List Lk} {x z : ByteArray} (hz : z ∉ K.map Lk.nm) (h : (Ld.zn Z K x).2 = 0) : (Ld.zn (Z ++ [z]) K x).2 = 0 := by
  obtain ⟨n, e, hn, _, he, _⟩ := zn_lt h
  obtain ⟨m, hm⟩ := it_zone hz n x hn
  have hin : Ld.inb e (Z ++ [z]) = true := inb_iff.2 (List.mem_append.2 (.inl he))
  rw [zn_end hm (by unfold Ld.nx; rw [if_pos hin]), if_pos hin]
/-- A zone more, of a new name, has the flaws that it has alone with the rules. -/
theorem all_zone {d d' d1 : Sd} {z : Zd} (hr : d'.rs = d.rs) (hz : d'.zs = d.zs ++ [z]) (hl : d'.ls = d.ls) (gr : d1.rs = d.rs) (gz : d1.zs = [z]) (gl : d1.ls = []) (h : Vd.all d = []) (hn : z.nm ∉ d.names) : Vd.all d' = [] ↔ Vd.all d1 = [] := by
  obtain ⟨h1, h2, h3, h4⟩ := all_nil.1 h
  rw [all_nil, all_nil]
  unfold Sd.names at h1 hn
  rw [List.mem_append, not_or] at hn
  constructor
  · rintro ⟨_, g2, g3, _⟩
    refine ⟨?_, ?_, ?_, ?_⟩
    · unfold Sd.names
      rw [gz, gl]
      exact List.nodup_cons.2 ⟨by simp, List.nodup_nil⟩
    · rw [gz, gr]
      exact mem_one (fun e he hk => by
        have := g2 z (by rw [hz]; exact List.mem_append.2 (.inr (List.mem_singleton.2 rfl))) e he hk
        rwa [hr] at this)
    · rw [gz]
      exact mem_one (g3 z (by rw [hz]; exact List.mem_append.2 (.inr (List.mem_singleton.2 rfl))))
    · rw [gl]
      exact fun k hk => by cases hk
  · rintro ⟨_, g2, g3, _⟩
    refine ⟨?_, ?_, ?_, ?_⟩
    · unfold Sd.names
      rw [hz, hl, List.map_append, List.append_assoc]
      have hp : (d.zs.map Zd.nm ++ ([z].map Zd.nm ++ d.ls.map Lk.nm)).Perm (z.nm :: (d.zs.map Zd.nm ++ d.ls.map Lk.nm)) := List.perm_middle
      rw [hp.nodup_iff, List.nodup_cons]
      exact ⟨by rw [List.mem_append, not_or]; exact hn, h1⟩
    · rw [hz, hr]
      intro q hq
      rcases List.mem_append.1 hq with hq | hq
      · exact h2 q hq
      · rw [List.mem_singleton.1 hq]
        have := g2 z (by rw [gz]; exact List.mem_singleton.2 rfl)
        rwa [gr] at this
    · rw [hz]
      intro q hq
      rcases List.mem_append.1 hq with hq | hq
      · exact h3 q hq
      · rw [List.mem_singleton.1 hq]
        exact g3 z (by rw [gz]; exact List.mem_singleton.2 rfl)
    · rw [hz, hl, List.map_append]
      exact fun k hk => zn_zone hn.2 (h4 k hk)
theorem bool_of_iff {a b : Bool} (h : a = true ↔ b = true) : a = b := Bool.eq_iff_iff.2 h
theorem right_zone {d d' d1 : Sd} {z : Zd} (hr : d'.rs = d.rs) (hz : d'.zs = d.zs ++ [z]) (hl : d'.ls = d.ls) (gr : d1.rs = d.rs) (gz : d1.zs = [z]) (gl : d1.ls = []) (h : So.right d.src = true) (hn : d.zs.length ≤ 12) : So.right d'.src = So.right d1.src := by
  obtain ⟨h0, h1, h2, h3⟩ := so_parts h
  apply bool_of_iff
  constructor
  · intro g
    obtain ⟨_, _, g2, _⟩ := so_parts g
    refine so_of ⟨?_, ?_, ?_⟩ ?_ ?_ ?_
    · show d1.rs.length ≤ _; rw [gr]; exact h0.1
    · show (d1.zs.map Zd.zn).length ≤ _; rw [gz]; simp
    · show d1.ls.length ≤ _; rw [gl]; simp
    · show ∀ r ∈ d1.rs, _; rw [gr]; exact h1
    · show ∀ q ∈ d1.zs.map Zd.zn, _
      rw [gz]
      exact mem_one (g2 z.zn (by show _ ∈ d'.zs.map Zd.zn; rw [hz]; exact List.mem_map.2 ⟨z, List.mem_append.2 (.inr (List.mem_singleton.2 rfl)), rfl⟩))
    · show ∀ k ∈ d1.ls, _; rw [gl]; exact fun k hk => by cases hk
  · intro g
    obtain ⟨_, _, g2, _⟩ := so_parts g
    refine so_of ⟨?_, ?_, ?_⟩ ?_ ?_ ?_
    · show d'.rs.length ≤ _; rw [hr]; exact h0.1
    · show (d'.zs.map Zd.zn).length ≤ _; rw [hz, List.length_map, List.length_append]; simp; omega
    · show d'.ls.length ≤ _; rw [hl]; exact h0.2.2
    · show ∀ r ∈ d'.rs, _; rw [hr]; exact h1
    · show ∀ q ∈ d'.zs.map Zd.zn, _
      rw [hz, List.map_append]
      intro q hq
      rcases List.mem_append.1 hq with hq | hq
      · exact h2 q hq
      · rw [List.mem_singleton.1 hq]
        exact g2 z.zn (by show _ ∈ d1.zs.map Zd.zn; rw [gz]; exact List.mem_map.2 ⟨z, List.mem_singleton.2 rfl, rfl⟩)
    · show ∀ k ∈ d'.ls, _; rw [hl]; exact h3
theorem right_rule {d d' : Sd} {r : Ru} (hr : d'.rs = d.rs ++ [r]) (hz : d'.zs = d.zs) (hl : d'.ls = d.ls) (h : So.right d.src = true) (hn : d.rs.length ≤ 40) : So.right d'.src = Rl.right r := by
  obtain ⟨h0, h1, h2, h3⟩ := so_parts h
  apply bool_of_iff
  constructor
  · intro g
    obtain ⟨_, g1, _, _⟩ := so_parts g
    exact g1 r (by show _ ∈ d'.rs; rw [hr]; exact List.mem_append.2 (.inr (List.mem_singleton.2 rfl)))
  · intro g
    refine so_of ⟨?_, ?_, ?_⟩ ?_ ?_ ?_
    · show d'.rs.length ≤ _; rw [hr, List.length_append]; simp; omega
    · show (d'.zs.map Zd.zn).length ≤ _; rw [hz]; exact h0.2.1
    · show d'.ls.length ≤ _; rw [hl]; exact h0.2.2
    · show ∀ q ∈ d'.rs, _
      rw [hr]
      intro q hq
      rcases List.mem_append.1 hq with hq | hq
      · exact h1 q hq
      · rw [List.mem_singleton.1 hq]; exact g
    · show ∀ q ∈ d'.zs.map Zd.zn, _; rw [hz]; exact h2
    · show ∀ k ∈ d'.ls, _; rw [hl]; exact h3
theorem fits_rule {d d' : Sd} {r : Ru} (hr : d'.rs = d.rs ++ [r]) (hz : d'.zs = d.zs) (hl : d'.ls = d.ls) (h : d.fits) (hn : d.rs.length ≤ 40) (h1 : r.nm.size ≤ 9223372036854775807 ∧ r.lt.size ≤ 9223372036854775807) : d'.fits :=
  ⟨by rw [hr, List.length_append]; simp; omega, by rw [hz]; exact h.z, by rw [hl]; exact h.l, by
    rw [hr]
    intro q hq
    rcases List.mem_append.1 hq with hq | hq
    · exact h.rn q hq
    · rw [List.mem_singleton.1 hq]; exact h1, by rw [hz]; exact h.zn, by rw [hl]; exact h.ln⟩
theorem fits_zone {d d' : Sd} {z : Zd} (hr : d'.rs = d.rs) (hz : d'.zs = d.zs ++ [z]) (hl : d'.ls = d.ls) (h : d.fits) (hn : d.zs.length ≤ 12) (h1 : z.nm.size ≤ 9223372036854775807 ∧ z.es.length ≤ 9223372036854775807 ∧ ∀ e ∈ z.es, e.ru.size ≤ 9223372036854775807 ∧ e.fm.size ≤ 9223372036854775807) : d'.fits :=
  ⟨by rw [hr]; exact h.r, by rw [hz, List.length_append]; simp; omega, by rw [hl]; exact h.l, by rw [hr]; exact h.rn, by
    rw [hz]
    intro q hq
    rcases List.mem_append.1 hq with hq | hq
    · exact h.zn q hq
    · rw [List.mem_singleton.1 hq]; exact h1, by rw [hl]; exact h.ln⟩
theorem own_empty {W : World} {g k : Nat} {T : TypeId} (h : W.heap[g]? = some (.cells #[] T (0, 0))) : W.ownsRow g T k (.slice (some ⟨g, 0, none⟩) 0 0) 0 [] :=
  ⟨by simp, .inr ⟨g, 0, #[], rfl, Nat.le_refl _, h, Nat.le_refl _, Nat.zero_le _, by simp, by simp⟩⟩
set_option maxHeartbeats 1000000 in
/-- At a step of a region that draws its order: a row of elements is appended to one of the call's own. -/
theorem step_rows {α : Type} {enc : α → List Value} {kk bytes : Nat} {T TS : TypeId} {i0 : TypeInfo} {z : Value} (hk : ∀ x, (enc x).length = kk) (hk0 : 0 < kk) (hone : ∀ x, ∀ u ∈ enc x, u.oneCell' = true) (ht : Tryd.prog.underlying TS = some (.slice T))
    (hi : Tryd.prog.info? T = some i0) (hz0 : i0.zero = some z) (hz1 : i0.size = kk) (hz2 : i0.bytes = bytes) (hzs : z.cells.size = kk) (hby : bytes ≤ 4096)
    {w : World} {ops : Array Oper} {o : Oper} {a : Act} {K : Act → World → Prop} {Q : Exit → Act → World → Prop} {E : Prop} (hgd : o.guard = none) (s x : Operand)
    (ho : o.op = .call { callee := .builtin .append, args := #[s, x], argTypes := #[TS, TS] }) (base : Nat) (v : Value) (L : List α) (hs : a.eval s = v) (hown : w.ownsRow base T kk v L.length (L.flatMap enc)) (A : Option Addr) (c : Nat) (M : List α)
    (hx : a.eval x = .slice A M.length c) (hA : A = none → c = 0) (hM : Rk w w.heap.size A (M.flatMap enc)) (hlen : L.length + M.length ≤ 4097) (hbase : base ≤ w.heap.size)
    (h : ∀ v' w', w'.ownsRow base T kk v' (L ++ M).length ((L ++ M).flatMap enc) → w.grownBy w' v.ownBlock → K (a.put o.dst v') w') : if Region.wanted o (yielded ops a.tmps) = true then Oper.wp Tryd.prog o a w K Q else E := by
  have hw : Region.wanted o (yielded ops a.tmps) = true := by simp [Region.wanted, hgd]
  rw [if_pos hw]
  cases A with
  | none =>
    have hm : M = [] := by
      cases M with
      | nil => rfl
      | cons q l =>
        obtain ⟨b, o, e, _⟩ := hM (by rw [flat_len hk, List.length_cons]; exact Nat.mul_pos (Nat.succ_pos _) hk0)
        cases e
    subst hm
    have hc := hA rfl
    subst hc
    have hrun := run_append_owned_none (P := Tryd.prog) (w := w) base TS o.type T i0 kk ht hi v L.length (L.flatMap enc) hown
    unfold Oper.wp
    simp [execOp, ho, resolve, invoke, builtin, hs, hx, hrun, Result.andThen]
    exact h v w (by simpa using hown) ⟨rfl, rfl, rfl, Nat.le_refl _, fun _ _ _ => rfl⟩
  | some ad =>
    refine wp_append_own w s x TS ho base T i0 z kk bytes ht hi hz0 hz1 hz2 hzs hk0 v L.length (L.flatMap enc) hs hown ad M.length c (M.flatMap enc) hx (flat_len hk _) (fun j u hu => ?_) (fun u hu => ?_) (by unfold maxLen; omega) ?_ hbase (fun v' w' h1 h2 _ => ?_)
    · have h0 : 0 < (M.flatMap enc).length := by
        have := (List.getElem?_eq_some_iff.1 hu).1
        omega
      obtain ⟨b, o', e, _, hc⟩ := hM h0
      injection e with e
      subst e
      rw [addr_o]
      exact hc j u hu
    · obtain ⟨q, _, hq⟩ := List.mem_flatMap.1 hu
      exact hone q u hq
    · have : (L.length + M.length) * bytes ≤ 4097 * 4096 := Nat.mul_le_mul hlen hby
      omega
    · refine h v' w' ?_ h2
      rw [List.flatMap_append, List.length_append]
      exact h1
end Go.Proofs.YthlbockphdbpkaaDoor
