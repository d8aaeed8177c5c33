/- The contract of the document's own answer for Parse: a byte at a time. -/
import Derived.Test.YtoaemkljlphieaaDoorParse2
import Derived.Test.YtoaemkljlphieaaDoorRef02
import Derived.Deep.QuietTactic
import Derived.BigQuiet
namespace Go.Proofs.YtoaemkljlphieaaDoor
open Go.RowKit
theorem infoInt : (Tryd.prog.info? 2).map (fun i => (i.zero, i.size, i.bytes)) = some (some (.int .i64 0), 1, 8) := by kernel_rfl
/-- The slice l, of the call's own memory, holds the numbers ns; what was there when the call began is as it was. -/
def Own (w wr : World) (l : Value) (ns : List Int) : Prop := wr.ownsRow w.heap.size 2 1 l ns.length (ns.map (Value.int .i64)) ∧ Below w.heap.size w wr
theorem own_start (w : World) : Own w w (.slice none 0 0) [] := ⟨World.ownsRow_nil _ _ _ _, Below.refl _ _⟩
theorem own_drewN {w wr : World} {l : Value} {ns : List Int} (h : Own w wr l ns) (n : Nat) : Own w (wr.drewN n) l ns := ⟨h.1, below_drewN h.2 n⟩
theorem own_form {w wr : World} {l : Value} {ns : List Int} (h : Own w wr l ns) : ∃ a c, l = .slice a ns.length c := by
  rcases h.1.2 with ⟨e1, e2⟩ | ⟨g, cap, cur, e1, _⟩
  · exact ⟨_, _, by rw [e1, e2]⟩
  · exact ⟨_, _, e1⟩
theorem own_append {w wr w1 : World} {l v' : Value} {ns : List Int} {x : Int} {ob : Obj} (h : Own w wr l ns)
    (hown' : w1.ownsRow w.heap.size 2 1 v' (ns.length + 1) (ns.map (Value.int .i64) ++ [.int .i64 x])) (hgrow : (wr.alloc ob).grownBy w1 l.ownBlock) : Own w w1 v' (ns ++ [x]) :=
  ⟨by simpa using hown', (h.2.alloc h.2.size ob).grown hgrow (by have := h.2.size; simp; omega) (fun j hj => (h.1.lt j hj).1)⟩
theorem own_cells {w wr : World} {l : Value} {ns : List Int} (h : Own w wr l ns) (h3 : ns.length = 3) : ∃ g c, l = .slice (some ⟨g, 0, none⟩) 3 c ∧ wr.cell? ⟨g, 0, none⟩ = some (.int .i64 (ns.getD 0 0)) ∧ wr.cell? ⟨g, 1, none⟩ = some (.int .i64 (ns.getD 1 0)) ∧ wr.cell? ⟨g, 2, none⟩ = some (.int .i64 (ns.getD 2 0)) := by
  match ns, h3 with
  | [a, b, c], _ =>
    rcases h.1.2 with ⟨_, e2⟩ | ⟨g, cap, cur, rfl, _⟩
    · simp at e2
    · have hc := fun j hj => h.1.cellAt (g := g) (cap := cap) j hj
      exact ⟨g, cap, rfl, hc 0 (by simp), hc 1 (by simp), hc 2 (by simp)⟩
/-- Where the reading stands: at byte k, with the numbers ns behind, x of dd digits in hand. -/
def At (L : List UInt8) (k : Nat) (ns : List Int) (x : Int) (dd : Nat) : Prop := Txt.R [] 0 0 L = Txt.R ns x dd (L.drop k) ∧ (∀ v ∈ ns, 0 ≤ v ∧ v < 1000) ∧ x < 10 ^ dd
theorem pow3 (x : Int) (dd : Nat) (h : dd ≤ 3) (hx : x < 10 ^ dd) : x < 1000 := by
  have : (10 : Int) ^ dd ≤ 10 ^ 3 := by
    have := Nat.pow_le_pow_right (n := 10) (by omega) h
    exact_mod_cast this
  omega
theorem drop_at (S : ByteArray) (k : Nat) (h : k < S.size) : S.data.toList.drop k = S[k] :: S.data.toList.drop (k + 1) := by
  rw [List.drop_eq_getElem_cons (by simpa using h)]; rfl
theorem drop_all (S : ByteArray) (k : Nat) (h : k = S.size) : S.data.toList.drop k = [] := by
  rw [List.drop_eq_nil_iff]; simp; omega
def Bad (ns : List Int) (x : Int) (dd : Nat) : Prop := dd < 1 ∨ 3 < dd ∨ (0 < ns.length ∧ (dd ≠ 2 ∨ 60 ≤ x)) ∨ ns.length = 3
theorem at_end_bad {L : List UInt8} {k : Nat} {ns : List Int} {x : Int} {dd : Nat} (h : At L k ns x dd) (hd : L.drop k = []) (hb : Bad ns x dd) : Txt.R [] 0 0 L = none := by
  unfold Bad at hb; rw [h.1, hd]; unfold Txt.R; rw [if_pos hb]
theorem at_end_good {L : List UInt8} {k : Nat} {ns : List Int} {x : Int} {dd : Nat} (h : At L k ns x dd) (hd : L.drop k = []) (hb : ¬ Bad ns x dd) : Txt.R [] 0 0 L = some (ns ++ [x]) := by
  unfold Bad at hb; rw [h.1, hd]; unfold Txt.R; rw [if_neg hb]
theorem at_colon_bad {L r : List UInt8} {k : Nat} {ns : List Int} {x : Int} {dd : Nat} (h : At L k ns x dd) (hd : L.drop k = 58 :: r) (hb : Bad ns x dd) : Txt.R [] 0 0 L = none := by
  unfold Bad at hb; rw [h.1, hd]; unfold Txt.R; rw [if_pos rfl, if_pos hb]
theorem at_colon_good {L r : List UInt8} {k : Nat} {ns : List Int} {x : Int} {dd : Nat} (h : At L k ns x dd) (hd : L.drop k = 58 :: r) (hr : L.drop (k + 1) = r) (hx0 : 0 ≤ x) (hdd : dd ≤ 3) (hb : ¬ Bad ns x dd) : At L (k + 1) (ns ++ [x]) 0 0 := by
  unfold Bad at hb; refine ⟨?_, ?_, by decide⟩
  · rw [h.1, hd, hr]; conv => lhs; unfold Txt.R
    rw [if_pos rfl, if_neg hb]
  · intro v hv
    rcases List.mem_append.1 hv with hv | hv
    · exact h.2.1 v hv
    · simp at hv; subst hv; exact ⟨hx0, pow3 _ _ hdd h.2.2⟩
theorem at_byte_bad {L r : List UInt8} {c : UInt8} {k : Nat} {ns : List Int} {x : Int} {dd : Nat} (h : At L k ns x dd) (hd : L.drop k = c :: r) (hc : c ≠ 58) (hb : c.toNat < 48 ∨ 57 < c.toNat ∨ dd = 3) : Txt.R [] 0 0 L = none := by
  rw [h.1, hd]; unfold Txt.R; rw [if_neg hc, if_pos hb]
theorem at_byte_good {L r : List UInt8} {c : UInt8} {k : Nat} {ns : List Int} {x : Int} {dd : Nat} (h : At L k ns x dd) (hd : L.drop k = c :: r) (hr : L.drop (k + 1) = r) (hc : c ≠ 58) (hb : ¬ (c.toNat < 48 ∨ 57 < c.toNat ∨ dd = 3)) : At L (k + 1) ns (10 * x + ((c.toNat : Int) - 48)) (dd + 1) := by
  refine ⟨?_, h.2.1, ?_⟩
  · rw [h.1, hd, hr]; conv => lhs; unfold Txt.R
    rw [if_neg hc, if_neg hb]
  · have := h.2.2
    rw [Int.pow_succ]
    omega
theorem R_G (L : List UInt8) : Txt.R [] 0 0 L = Txt.G 0 [] L := by
  have := Txt.R_eq L [] [] rfl (by simp) (by simp)
  rw [Txt.val_nil, List.length_nil, List.length_nil] at this
  rw [this]
  cases Txt.G 0 [] L <;> rfl
theorem secs_append (ns : List Int) (j : Nat) : secs (ns ++ List.replicate j 0) = secs ns := by
  have key : ∀ i : Nat, (ns ++ List.replicate j (0 : Int)).getD i 0 = ns.getD i 0 := by
    intro i
    rw [List.getD_eq_getElem?_getD, List.getD_eq_getElem?_getD]
    by_cases h : i < ns.length
    · rw [List.getElem?_append_left h]
    · rw [List.getElem?_append_right (by omega), List.getElem?_eq_none (l := ns) (by omega)]
      rw [List.getElem?_replicate]
      split <;> rfl
  unfold secs
  rw [key, key, key]
theorem append_c1 (wr : World) (x : Int) (t : TypeId) : ∀ j u, [Value.int .i64 x][j]? = some u → (wr.alloc (.cells #[.int .i64 x] t)).cell? ((⟨wr.heap.size, 0, none⟩ : Addr).add j) = some u := by
  intro j u hj
  match j, hj with
  | 0, hj => simp at hj; subst hj; simp [Addr.add]
theorem append_c2 (x : Int) : ∀ u ∈ [Value.int .i64 x], u.oneCell' = true := by
  intro u hu; simp at hu; subst hu; rfl
theorem append_c5 {w wr : World} {l : Value} {ns : List Int} {o : Obj} (h : Own w wr l ns) : w.heap.size ≤ (wr.alloc o).heap.size := by
  have := h.2.size; simp; omega
/-- What the rest of a text tells, behind a sign or none. -/
def resL (neg : Bool) (L : List UInt8) : Int × Int :=
  match Txt.R [] 0 0 L with
  | none => (0, 4)
  | some vs => if -604800 ≤ (if neg then -(secs vs) else secs vs) ∧ (if neg then -(secs vs) else secs vs) ≤ 604800 then ((if neg then -(secs vs) else secs vs), 0) else (0, 1)
theorem resL_parse (l : List UInt8) : parseL l = resL (Lib.hasPrefix l [45]) (Lib.trimPrefix l [45]) := by
  unfold parseL resL
  rw [R_G]
  cases Txt.G 0 [] (Lib.trimPrefix l [45]) <;> rfl
theorem res_none {L : List UInt8} (neg : Bool) (h : Txt.R [] 0 0 L = none) : resL neg L = (0, 4) := by unfold resL; rw [h]
theorem res_in {L : List UInt8} {vs : List Int} {x : Int} (neg : Bool) (h : Txt.R [] 0 0 L = some vs) (hx : (if neg then -(secs vs) else secs vs) = x) (h1 : -604800 ≤ x) (h2 : x ≤ 604800) : resL neg L = (x, 0) := by
  unfold resL; rw [h]; simp only [hx]; rw [if_pos ⟨h1, h2⟩]
theorem res_out {L : List UInt8} {vs : List Int} {x : Int} (neg : Bool) (h : Txt.R [] 0 0 L = some vs) (hx : (if neg then -(secs vs) else secs vs) = x) (h1 : x < -604800 ∨ 604800 < x) : resL neg L = (0, 1) := by
  unfold resL; rw [h]; simp only [hx]; rw [if_neg (by omega)]
theorem res_in1 {L : List UInt8} {vs : List Int} {x : Int} (neg : Bool) (h : Txt.R [] 0 0 L = some vs) (hx : (if neg then -(secs vs) else secs vs) = x) (h1 : -604800 ≤ x) (h2 : x ≤ 604800) : (resL neg L).1 = x ∧ (resL neg L).2 = 0 := by rw [res_in neg h hx h1 h2]; exact ⟨rfl, rfl⟩
theorem res_out1 {L : List UInt8} {vs : List Int} {x : Int} (neg : Bool) (h : Txt.R [] 0 0 L = some vs) (hx : (if neg then -(secs vs) else secs vs) = x) (h1 : x < -604800 ∨ 604800 < x) : (resL neg L).1 = 0 ∧ (resL neg L).2 = 1 := by rw [res_out neg h hx h1]; exact ⟨rfl, rfl⟩
theorem res_none1 {L : List UInt8} (neg : Bool) (h : Txt.R [] 0 0 L = none) : (resL neg L).1 = 0 ∧ (resL neg L).2 = 4 := by rw [res_none neg h]; exact ⟨rfl, rfl⟩
theorem own_form2 {w wr : World} {l : Value} {ns : List Int} (h : Own w wr l ns) (n : Nat) (hn : ns.length = n) : ∃ a c, l = .slice a n c := by
  subst hn
  exact own_form h
theorem own_three {w wr : World} {l : Value} {ms : List Int} (h : Own w wr l ms) (h3 : ms.length = 3) (hb : ∀ v ∈ ms, 0 ≤ v ∧ v < 1000) : ∃ (g c : Nat) (v0 v1 v2 : Int), l = .slice (some ⟨g, 0, none⟩) 3 c ∧ wr.cell? ⟨g, 0, none⟩ = some (.int .i64 v0) ∧ wr.cell? ⟨g, 1, none⟩ = some (.int .i64 v1) ∧ wr.cell? ⟨g, 2, none⟩ = some (.int .i64 v2) ∧
    secs ms = v0 * 3600 + v1 * 60 + v2 ∧ 0 ≤ v0 ∧ v0 < 1000 ∧ 0 ≤ v1 ∧ v1 < 1000 ∧ 0 ≤ v2 ∧ v2 < 1000 := by
  obtain ⟨g, c, hl, c0, c1, c2⟩ := own_cells h h3
  have b0 := getD_bd ms hb 0
  have b1 := getD_bd ms hb 1
  have b2 := getD_bd ms hb 2
  exact ⟨g, c, _, _, _, hl, c0, c1, c2, rfl, b0.1, b0.2, b1.1, b1.2, b2.1, b2.2⟩
theorem mem_pad {ns : List Int} {j : Nat} (h : ∀ v ∈ ns, 0 ≤ v ∧ v < 1000) : ∀ v ∈ ns ++ List.replicate j 0, 0 ≤ v ∧ v < 1000 := by
  intro v hv
  rcases List.mem_append.1 hv with hv | hv
  · exact h v hv
  · have := List.eq_of_mem_replicate hv
    omega
theorem head_no (S : ByteArray) (h : 0 < S.size) (hp : Lib.hasPrefix S.data.toList [45] = false) : ((S[0].toNat : Int) == 45) = false := by
  rw [beq_eq_false_iff_ne]
  intro e
  have h2 : S[0] = 45 := UInt8.toNat_inj.1 (by show S[0].toNat = 45; omega)
  have hd := drop_at S 0 h
  rw [List.drop_zero] at hd
  rw [hd, h2] at hp
  simp [Lib.hasPrefix, List.isPrefixOf] at hp
set_option maxHeartbeats 20000000 in
set_option maxRecDepth 100000 in
theorem rparse_pos (S : ByteArray) (w : World) (hs : S.size ≤ 200) (h0 : 0 < S.size) (hp : Lib.hasPrefix S.data.toList [45] = false) :
    Calls Tryd.prog 16 #[.string S] w fun e w' => e = .returned (.tuple #[.int .i64 (resL false S.data.toList).1, .int .i64 (resL false S.data.toList).2]) ∧ Below w.heap.size w w' := by
  obtain ⟨i0, hi, hz0, hz1, hz2⟩ := info_parts infoInt
  have HP := Lib.hid hp
  clear hp
  have u0 : decide ((0 : Int) < (S.size : Int)) = true := by simp; omega
  have u1 : ((S[0].toNat : Int) == 45) = false := head_no S h0 HP.out
  go_enter Tryd.func16, Tryd.ntmps16
  go_wp2_with fail
  go_loopw [5, 6, 7, 8] (fun l n d i wr => ∃ (k : Nat) (ns : List Int) (x : Int) (dd : Nat), i = .int .i64 k ∧ n = .int .i64 x ∧ d = .int .i64 dd ∧ Hid (Own w wr l ns) ∧ 0 ≤ x ∧ dd ≤ 3 ∧ ns.length ≤ 3 ∧
      ((k ≤ S.size ∧ Hid (At S.data.toList k ns x dd)) ∨ (k = S.size + 1 ∧ Hid (Txt.R [] 0 0 S.data.toList = some ns)))) (fun _ _ _ i _ => S.size + 2 - (intOf i).toNat)
  case atStart => exact ⟨0, [], 0, 0, rfl, rfl, rfl, own_start w, by omega, by omega, by simp, .inl ⟨by omega, ⟨rfl, by simp, by decide⟩⟩⟩
  case round =>
    obtain ⟨k, ns, x, dd, rfl, rfl, rfl, hown, hx0, hdd, hnl, hcase⟩ := hrel
    rcases hcase with ⟨hk, hat⟩ | ⟨hk, hR⟩
    · obtain ⟨m, hm⟩ : ∃ m : Nat, ns.length = m := ⟨_, rfl⟩
      obtain ⟨a, c, rfl⟩ := own_form2 hown.out m hm
      have hm3 : m ≤ 3 := by omega
      have HM := Lib.hid hm
      have HNL := Lib.hid hnl
      clear hm hnl
      have hx1 := pow3 x dd hdd hat.out.2.2
      by_cases hke : k = S.size
      · have hdrop := Lib.hid (drop_all S k hke)
        have e1 : (k == S.size) = true := beq_iff_eq.2 hke
        have e2 : ((k : Int) == (S.size : Int)) = true := by rw [beq_iff_eq]; omega
        have hke2 : S.size ≤ k := by omega
        clear hke
        have hch : dd < 1 ∨ (1 ≤ dd ∧ 0 < m ∧ dd ≠ 2) ∨ (dd = 2 ∧ 0 < m ∧ 60 ≤ x) ∨ (dd = 2 ∧ m = 3 ∧ x < 60) ∨ (1 ≤ dd ∧ m = 0) ∨ (dd = 2 ∧ 0 < m ∧ m < 3 ∧ x < 60) := by omega
        rcases hch with b1 | ⟨b1, b3, b4⟩ | ⟨b1, b3, b5⟩ | ⟨b1, b3, b5⟩ | ⟨b1, b3⟩ | ⟨b1, b3, b6, b5⟩
        · have t1 : decide ((dd : Int) < 1) = true := decide_eq_true (by omega)
          have HR := Lib.hid (at_end_bad hat.out hdrop.out (by have := HM.out; unfold Bad; omega))
          clear b1
          go_wp2_with fail
          go_ret2
          exact ⟨ret2_int (res_none1 false HR.out).1.symm (res_none1 false HR.out).2.symm, hown.out.2⟩
        · have t1 : decide ((dd : Int) < 1) = false := decide_eq_false (by omega)
          have t2 : decide ((3 : Int) < (dd : Int)) = false := decide_eq_false (by omega)
          have t3 : decide (0 < m) = true := decide_eq_true (by omega)
          have t4 : ((dd : Int) != 2) = true := by rw [bne_iff_ne]; omega
          have HR := Lib.hid (at_end_bad hat.out hdrop.out (by have := HM.out; unfold Bad; omega))
          clear b1 b3 b4
          go_wp2_with fail
          go_ret2
          exact ⟨ret2_int (res_none1 false HR.out).1.symm (res_none1 false HR.out).2.symm, hown.out.2⟩
        · have t1 : decide ((dd : Int) < 1) = false := decide_eq_false (by omega)
          have t2 : decide ((3 : Int) < (dd : Int)) = false := decide_eq_false (by omega)
          have t3 : decide (0 < m) = true := decide_eq_true (by omega)
          have t4 : ((dd : Int) != 2) = false := by rw [bne_eq_false_iff_eq]; omega
          have t5 : decide (60 ≤ x) = true := decide_eq_true (by omega)
          have HR := Lib.hid (at_end_bad hat.out hdrop.out (by have := HM.out; unfold Bad; omega))
          clear b1 b3 b5
          go_wp2_with fail
          go_ret2
          exact ⟨ret2_int (res_none1 false HR.out).1.symm (res_none1 false HR.out).2.symm, hown.out.2⟩
        · have t1 : decide ((dd : Int) < 1) = false := decide_eq_false (by omega)
          have t2 : decide ((3 : Int) < (dd : Int)) = false := decide_eq_false (by omega)
          have t3 : decide (0 < m) = true := decide_eq_true (by omega)
          have t4 : ((dd : Int) != 2) = false := by rw [bne_eq_false_iff_eq]; omega
          have t5 : decide (60 ≤ x) = false := decide_eq_false (by omega)
          have t6 : ((m : Int) == 3) = true := by rw [beq_iff_eq]; omega
          have HR := Lib.hid (at_end_bad hat.out hdrop.out (by have := HM.out; unfold Bad; omega))
          clear b1 b3 b5
          go_wp2_with fail
          go_ret2
          exact ⟨ret2_int (res_none1 false HR.out).1.symm (res_none1 false HR.out).2.symm, hown.out.2⟩
        · have t1 : decide ((dd : Int) < 1) = false := decide_eq_false (by omega)
          have t2 : decide ((3 : Int) < (dd : Int)) = false := decide_eq_false (by omega)
          have t3 : decide (0 < m) = false := decide_eq_false (by omega)
          have t6 : ((m : Int) == 3) = false := by rw [beq_eq_false_iff_ne]; omega
          have HR := Lib.hid (at_end_good hat.out hdrop.out (by have := HM.out; unfold Bad; omega))
          have hlen : m ≤ 2 := by omega
          clear b1 b3
          go_wp2_with ((at_builtin; refine wpList_append_own _ rfl _ _ 46 rfl w.heap.size 2 i0 (.int .i64 0) 1 8 Tryd.underlying46 hi hz0 hz1 hz2 rfl (by decide) _ _ _ rfl (hown.out.1.alloc _) ⟨wr.heap.size, 0, none⟩ 1 1 [.int .i64 x] rfl rfl (append_c1 _ _ _) (append_c2 _) (by have := HM.out; unfold maxLen; omega) (by have := HM.out; omega) (append_c5 hown.out) ?_; intro v' w1 hown' hgrow _))
          have hown2 := Lib.hid (own_append hown.out hown' hgrow)
          clear hown' hgrow hown
          go_wp2_with fail
          go_roundw
          case rel => exact ⟨k + 1, ns ++ [x], 0, 0, by go_num, rfl, rfl, hown2, by omega, by omega, by have := HM.out; simp; omega, .inr ⟨by omega, HR.out⟩⟩
          case measure => simp [intOf]; omega
        · have t1 : decide ((dd : Int) < 1) = false := decide_eq_false (by omega)
          have t2 : decide ((3 : Int) < (dd : Int)) = false := decide_eq_false (by omega)
          have t3 : decide (0 < m) = true := decide_eq_true (by omega)
          have t4 : ((dd : Int) != 2) = false := by rw [bne_eq_false_iff_eq]; omega
          have t5 : decide (60 ≤ x) = false := decide_eq_false (by omega)
          have t6 : ((m : Int) == 3) = false := by rw [beq_eq_false_iff_ne]; omega
          have HR := Lib.hid (at_end_good hat.out hdrop.out (by have := HM.out; unfold Bad; omega))
          have hlen : m ≤ 2 := by omega
          clear b1 b3 b6 b5
          go_wp2_with ((at_builtin; refine wpList_append_own _ rfl _ _ 46 rfl w.heap.size 2 i0 (.int .i64 0) 1 8 Tryd.underlying46 hi hz0 hz1 hz2 rfl (by decide) _ _ _ rfl (hown.out.1.alloc _) ⟨wr.heap.size, 0, none⟩ 1 1 [.int .i64 x] rfl rfl (append_c1 _ _ _) (append_c2 _) (by have := HM.out; unfold maxLen; omega) (by have := HM.out; omega) (append_c5 hown.out) ?_; intro v' w1 hown' hgrow _))
          have hown2 := Lib.hid (own_append hown.out hown' hgrow)
          clear hown' hgrow hown
          go_wp2_with fail
          go_roundw
          case rel => exact ⟨k + 1, ns ++ [x], 0, 0, by go_num, rfl, rfl, hown2, by omega, by omega, by have := HM.out; simp; omega, .inr ⟨by omega, HR.out⟩⟩
          case measure => simp [intOf]; omega
      · have hlt : k < S.size := by omega
        have e1 : (k == S.size) = false := beq_eq_false_iff_ne.2 hke
        have e2 : ((k : Int) == (S.size : Int)) = false := by rw [beq_eq_false_iff_ne]; omega
        clear hke
        have hdrop0 := Lib.hid (drop_at S k hlt)
        by_cases h58 : S[k] = 58
        · have hdrop : Hid (S.data.toList.drop k = 58 :: S.data.toList.drop (k + 1)) := by have := hdrop0.out; rw [h58] at this; exact this
          have hdrop2 := Lib.hid (show S.data.toList.drop (k + 1) = S.data.toList.drop (k + 1) from rfl)
          have e3 : ((S[k].toNat : Int) == 58) = true := by rw [h58]; rfl
          clear h58 hdrop0
          have hch : dd < 1 ∨ (1 ≤ dd ∧ 0 < m ∧ dd ≠ 2) ∨ (dd = 2 ∧ 0 < m ∧ 60 ≤ x) ∨ (dd = 2 ∧ m = 3 ∧ x < 60) ∨ (1 ≤ dd ∧ m = 0) ∨ (dd = 2 ∧ 0 < m ∧ m < 3 ∧ x < 60) := by omega
          rcases hch with b1 | ⟨b1, b3, b4⟩ | ⟨b1, b3, b5⟩ | ⟨b1, b3, b5⟩ | ⟨b1, b3⟩ | ⟨b1, b3, b6, b5⟩
          · have t1 : decide ((dd : Int) < 1) = true := decide_eq_true (by omega)
            have HR := Lib.hid (at_colon_bad hat.out hdrop.out (by have := HM.out; unfold Bad; omega))
            clear b1
            go_wp2_with fail
            go_ret2
            exact ⟨ret2_int (res_none1 false HR.out).1.symm (res_none1 false HR.out).2.symm, hown.out.2⟩
          · have t1 : decide ((dd : Int) < 1) = false := decide_eq_false (by omega)
            have t2 : decide ((3 : Int) < (dd : Int)) = false := decide_eq_false (by omega)
            have t3 : decide (0 < m) = true := decide_eq_true (by omega)
            have t4 : ((dd : Int) != 2) = true := by rw [bne_iff_ne]; omega
            have HR := Lib.hid (at_colon_bad hat.out hdrop.out (by have := HM.out; unfold Bad; omega))
            clear b1 b3 b4
            go_wp2_with fail
            go_ret2
            exact ⟨ret2_int (res_none1 false HR.out).1.symm (res_none1 false HR.out).2.symm, hown.out.2⟩
          · have t1 : decide ((dd : Int) < 1) = false := decide_eq_false (by omega)
            have t2 : decide ((3 : Int) < (dd : Int)) = false := decide_eq_false (by omega)
            have t3 : decide (0 < m) = true := decide_eq_true (by omega)
            have t4 : ((dd : Int) != 2) = false := by rw [bne_eq_false_iff_eq]; omega
            have t5 : decide (60 ≤ x) = true := decide_eq_true (by omega)
            have HR := Lib.hid (at_colon_bad hat.out hdrop.out (by have := HM.out; unfold Bad; omega))
            clear b1 b3 b5
            go_wp2_with fail
            go_ret2
            exact ⟨ret2_int (res_none1 false HR.out).1.symm (res_none1 false HR.out).2.symm, hown.out.2⟩
          · have t1 : decide ((dd : Int) < 1) = false := decide_eq_false (by omega)
            have t2 : decide ((3 : Int) < (dd : Int)) = false := decide_eq_false (by omega)
            have t3 : decide (0 < m) = true := decide_eq_true (by omega)
            have t4 : ((dd : Int) != 2) = false := by rw [bne_eq_false_iff_eq]; omega
            have t5 : decide (60 ≤ x) = false := decide_eq_false (by omega)
            have t6 : ((m : Int) == 3) = true := by rw [beq_iff_eq]; omega
            have HR := Lib.hid (at_colon_bad hat.out hdrop.out (by have := HM.out; unfold Bad; omega))
            clear b1 b3 b5
            go_wp2_with fail
            go_ret2
            exact ⟨ret2_int (res_none1 false HR.out).1.symm (res_none1 false HR.out).2.symm, hown.out.2⟩
          · have t1 : decide ((dd : Int) < 1) = false := decide_eq_false (by omega)
            have t2 : decide ((3 : Int) < (dd : Int)) = false := decide_eq_false (by omega)
            have t3 : decide (0 < m) = false := decide_eq_false (by omega)
            have t6 : ((m : Int) == 3) = false := by rw [beq_eq_false_iff_ne]; omega
            have HR := Lib.hid (at_colon_good hat.out hdrop.out hdrop2.out hx0 hdd (by have := HM.out; unfold Bad; omega))
            have hlen : m ≤ 2 := by omega
            clear b1 b3
            go_wp2_with ((at_builtin; refine wpList_append_own _ rfl _ _ 46 rfl w.heap.size 2 i0 (.int .i64 0) 1 8 Tryd.underlying46 hi hz0 hz1 hz2 rfl (by decide) _ _ _ rfl (hown.out.1.alloc _) ⟨wr.heap.size, 0, none⟩ 1 1 [.int .i64 x] rfl rfl (append_c1 _ _ _) (append_c2 _) (by have := HM.out; unfold maxLen; omega) (by have := HM.out; omega) (append_c5 hown.out) ?_; intro v' w1 hown' hgrow _))
            have hown2 := Lib.hid (own_append hown.out hown' hgrow)
            clear hown' hgrow hown
            go_wp2_with fail
            go_roundw
            case rel => exact ⟨k + 1, ns ++ [x], 0, 0, by go_num, rfl, rfl, hown2, by omega, by omega, by have := HM.out; simp; omega, .inl ⟨by omega, HR.out⟩⟩
            case measure => simp [intOf]; omega
          · have t1 : decide ((dd : Int) < 1) = false := decide_eq_false (by omega)
            have t2 : decide ((3 : Int) < (dd : Int)) = false := decide_eq_false (by omega)
            have t3 : decide (0 < m) = true := decide_eq_true (by omega)
            have t4 : ((dd : Int) != 2) = false := by rw [bne_eq_false_iff_eq]; omega
            have t5 : decide (60 ≤ x) = false := decide_eq_false (by omega)
            have t6 : ((m : Int) == 3) = false := by rw [beq_eq_false_iff_ne]; omega
            have HR := Lib.hid (at_colon_good hat.out hdrop.out hdrop2.out hx0 hdd (by have := HM.out; unfold Bad; omega))
            have hlen : m ≤ 2 := by omega
            clear b1 b3 b6 b5
            go_wp2_with ((at_builtin; refine wpList_append_own _ rfl _ _ 46 rfl w.heap.size 2 i0 (.int .i64 0) 1 8 Tryd.underlying46 hi hz0 hz1 hz2 rfl (by decide) _ _ _ rfl (hown.out.1.alloc _) ⟨wr.heap.size, 0, none⟩ 1 1 [.int .i64 x] rfl rfl (append_c1 _ _ _) (append_c2 _) (by have := HM.out; unfold maxLen; omega) (by have := HM.out; omega) (append_c5 hown.out) ?_; intro v' w1 hown' hgrow _))
            have hown2 := Lib.hid (own_append hown.out hown' hgrow)
            clear hown' hgrow hown
            go_wp2_with fail
            go_roundw
            case rel => exact ⟨k + 1, ns ++ [x], 0, 0, by go_num, rfl, rfl, hown2, by omega, by omega, by have := HM.out; simp; omega, .inl ⟨by omega, HR.out⟩⟩
            case measure => simp [intOf]; omega
        · have e3 : ((S[k].toNat : Int) == 58) = false := by
            rw [beq_eq_false_iff_ne]
            intro e
            exact h58 (UInt8.toNat_inj.1 (by show S[k].toNat = 58; omega))
          have H58 := Lib.hid h58
          clear h58
          by_cases c1 : (S[k].toNat : Int) < 48
          · have HR := Lib.hid (at_byte_bad hat.out hdrop0.out H58.out (by omega))
            go_wp2_with fail
            go_ret2
            exact ⟨ret2_int (res_none1 false HR.out).1.symm (res_none1 false HR.out).2.symm, hown.out.2⟩
          · by_cases c2 : 57 < (S[k].toNat : Int)
            · have HR := Lib.hid (at_byte_bad hat.out hdrop0.out H58.out (by omega))
              go_wp2_with fail
              go_ret2
              exact ⟨ret2_int (res_none1 false HR.out).1.symm (res_none1 false HR.out).2.symm, hown.out.2⟩
            · by_cases c3 : dd = 3
              · have HR := Lib.hid (at_byte_bad hat.out hdrop0.out H58.out (by omega))
                have e4 : ((dd : Int) == 3) = true := by rw [beq_iff_eq]; omega
                clear c3
                go_wp2_with fail
                go_ret2
                exact ⟨ret2_int (res_none1 false HR.out).1.symm (res_none1 false HR.out).2.symm, hown.out.2⟩
              · have HR := Lib.hid (at_byte_good hat.out hdrop0.out rfl H58.out (by omega))
                have e4 : ((dd : Int) == 3) = false := by rw [beq_eq_false_iff_ne]; omega
                have hd2 : dd ≤ 2 := by omega
                clear c3
                go_wp2_with fail
                go_roundw
                case rel => exact ⟨k + 1, ns, _, dd + 1, by go_num, rfl, by go_num, hown, by omega, by omega, HNL.out, .inl ⟨by omega, HR.out⟩⟩
                case measure => simp [intOf]; omega
    · have hlt : S.size < k := by omega
      have e0 : decide (k ≤ S.size) = false := by simp; omega
      clear hk
      have hvb := Lib.hid (G_bd _ _ _ _ ((R_G _).symm.trans hR.out))
      have hl1 : 1 ≤ ns.length := (Txt.G_len _ _ _ _ ((R_G _).symm.trans hR.out) (by omega)).1
      have hn3 : ns.length = 1 ∨ ns.length = 2 ∨ ns.length = 3 := by omega
      rcases hn3 with hn | hn | hn
      · obtain ⟨a, c, rfl⟩ := own_form2 hown.out 1 hn
        have hnle : ns.length ≤ 1 := by omega
        have hnge : 1 ≤ ns.length := by omega
        clear hn hnl hl1
        go_wp2_with fail
        refine wp_loop_rounds 4 ?_
        rw [rounds_succ]
        go_wp2_with ((at_builtin; refine wpList_append_own _ rfl _ _ 46 rfl w.heap.size 2 i0 (.int .i64 0) 1 8 Tryd.underlying46 hi hz0 hz1 hz2 rfl (by decide) _ _ _ rfl (hown.out.1.alloc _) ⟨wr.heap.size, 0, none⟩ 1 1 [.int .i64 0] rfl rfl (append_c1 _ _ _) (append_c2 _) (by unfold maxLen; first | omega | (simp; omega)) (by first | omega | (simp; omega)) (append_c5 hown.out) ?_; intro vq1 wq1 hown' hgrow _))
        have ho1 := Lib.hid (own_append hown.out hown' hgrow)
        clear hown' hgrow hown
        obtain ⟨a1, c1, rfl⟩ := own_form2 ho1.out 2 (by first | omega | (simp; omega))
        go_wp2_with fail
        rw [rounds_succ]
        go_wp2_with ((at_builtin; refine wpList_append_own _ rfl _ _ 46 rfl w.heap.size 2 i0 (.int .i64 0) 1 8 Tryd.underlying46 hi hz0 hz1 hz2 rfl (by decide) _ _ _ rfl (ho1.out.1.alloc _) ⟨wq1.heap.size, 0, none⟩ 1 1 [.int .i64 0] rfl rfl (append_c1 _ _ _) (append_c2 _) (by unfold maxLen; first | omega | (simp; omega)) (by first | omega | (simp; omega)) (append_c5 ho1.out) ?_; intro vq2 wq2 hown' hgrow _))
        have ho2 := Lib.hid (own_append ho1.out hown' hgrow)
        clear hown' hgrow ho1
        obtain ⟨a2, c2, rfl⟩ := own_form2 ho2.out 3 (by first | omega | (simp; omega))
        go_wp2_with fail
        rw [rounds_succ]
        have hmb := mem_pad (j := 2) hvb.out
        have hsp := secs_append ns 2
        have hms : Own w wq2 (.slice a2 3 c2) (ns ++ List.replicate 2 0) := by simpa [List.replicate] using ho2.out
        obtain ⟨g, cc, v0, v1, v2, he, k0, k1, k2, hsq, p1, p2, p3, p4, p5, p6⟩ := own_three hms (by first | omega | (simp; omega)) hmb
        have hsn := hsp.symm.trans hsq
        have hbb := hms.2
        injection he with he1 _ he3
        subst he1 he3
        clear hmb hsp hms hsq ho2
        have HX := Lib.hid (show (if false then -(secs ns) else secs ns) = (v0 * 3600 + v1 * 60 + v2) by rw [hsn]; rfl)
        clear hsn
        go_wp2_with fail
        go_quiet (fail)
        go_wp2_with fail
        by_cases hr : -604800 ≤ (v0 * 3600 + v1 * 60 + v2) ∧ (v0 * 3600 + v1 * 60 + v2) ≤ 604800
        · obtain ⟨r1, r2⟩ := hr
          obtain ⟨f1, f2⟩ := res_in1 false hR.out HX.out r1 r2
          have F1 := Lib.hid f1
          have F2 := Lib.hid f2
          clear f1 f2
          refine (rtime_yes _ _ (by omega) (by omega)).mono ?_
          rintro e w' ⟨rfl, rfl⟩
          go_wp2_with fail
          go_ret2
          exact ⟨ret2_int (by have := F1.out; omega) F2.out.symm, below_drewN hbb _⟩
        · have hr2 := Lib.hid (show (v0 * 3600 + v1 * 60 + v2) < -604800 ∨ 604800 < (v0 * 3600 + v1 * 60 + v2) by omega)
          clear hr
          obtain ⟨f1, f2⟩ := res_out1 false hR.out HX.out hr2.out
          have F1 := Lib.hid f1
          have F2 := Lib.hid f2
          clear f1 f2
          refine (rtime_no _ _ (by have := hr2.out; omega)).mono ?_
          rintro e w' ⟨rfl, rfl⟩
          go_wp2_with fail
          go_ret2
          exact ⟨ret2_int F1.out.symm F2.out.symm, below_drewN hbb _⟩
      · obtain ⟨a, c, rfl⟩ := own_form2 hown.out 2 hn
        have hnle : ns.length ≤ 2 := by omega
        have hnge : 2 ≤ ns.length := by omega
        clear hn hnl hl1
        go_wp2_with fail
        refine wp_loop_rounds 4 ?_
        rw [rounds_succ]
        go_wp2_with ((at_builtin; refine wpList_append_own _ rfl _ _ 46 rfl w.heap.size 2 i0 (.int .i64 0) 1 8 Tryd.underlying46 hi hz0 hz1 hz2 rfl (by decide) _ _ _ rfl (hown.out.1.alloc _) ⟨wr.heap.size, 0, none⟩ 1 1 [.int .i64 0] rfl rfl (append_c1 _ _ _) (append_c2 _) (by unfold maxLen; first | omega | (simp; omega)) (by first | omega | (simp; omega)) (append_c5 hown.out) ?_; intro vq1 wq1 hown' hgrow _))
        have ho1 := Lib.hid (own_append hown.out hown' hgrow)
        clear hown' hgrow hown
        obtain ⟨a1, c1, rfl⟩ := own_form2 ho1.out 3 (by first | omega | (simp; omega))
        go_wp2_with fail
        rw [rounds_succ]
        have hmb := mem_pad (j := 1) hvb.out
        have hsp := secs_append ns 1
        have hms : Own w wq1 (.slice a1 3 c1) (ns ++ List.replicate 1 0) := by simpa [List.replicate] using ho1.out
        obtain ⟨g, cc, v0, v1, v2, he, k0, k1, k2, hsq, p1, p2, p3, p4, p5, p6⟩ := own_three hms (by first | omega | (simp; omega)) hmb
        have hsn := hsp.symm.trans hsq
        have hbb := hms.2
        injection he with he1 _ he3
        subst he1 he3
        clear hmb hsp hms hsq ho1
        have HX := Lib.hid (show (if false then -(secs ns) else secs ns) = (v0 * 3600 + v1 * 60 + v2) by rw [hsn]; rfl)
        clear hsn
        go_wp2_with fail
        go_quiet (fail)
        go_wp2_with fail
        by_cases hr : -604800 ≤ (v0 * 3600 + v1 * 60 + v2) ∧ (v0 * 3600 + v1 * 60 + v2) ≤ 604800
        · obtain ⟨r1, r2⟩ := hr
          obtain ⟨f1, f2⟩ := res_in1 false hR.out HX.out r1 r2
          have F1 := Lib.hid f1
          have F2 := Lib.hid f2
          clear f1 f2
          refine (rtime_yes _ _ (by omega) (by omega)).mono ?_
          rintro e w' ⟨rfl, rfl⟩
          go_wp2_with fail
          go_ret2
          exact ⟨ret2_int (by have := F1.out; omega) F2.out.symm, below_drewN hbb _⟩
        · have hr2 := Lib.hid (show (v0 * 3600 + v1 * 60 + v2) < -604800 ∨ 604800 < (v0 * 3600 + v1 * 60 + v2) by omega)
          clear hr
          obtain ⟨f1, f2⟩ := res_out1 false hR.out HX.out hr2.out
          have F1 := Lib.hid f1
          have F2 := Lib.hid f2
          clear f1 f2
          refine (rtime_no _ _ (by have := hr2.out; omega)).mono ?_
          rintro e w' ⟨rfl, rfl⟩
          go_wp2_with fail
          go_ret2
          exact ⟨ret2_int F1.out.symm F2.out.symm, below_drewN hbb _⟩
      · obtain ⟨a, c, rfl⟩ := own_form2 hown.out 3 hn
        have hnle : ns.length ≤ 3 := by omega
        have hnge : 3 ≤ ns.length := by omega
        clear hn hnl hl1
        go_wp2_with fail
        refine wp_loop_rounds 4 ?_
        rw [rounds_succ]
        have hmb := mem_pad (j := 0) hvb.out
        have hsp := secs_append ns 0
        have hms : Own w wr (.slice a 3 c) (ns ++ List.replicate 0 0) := by simpa [List.replicate] using hown.out
        obtain ⟨g, cc, v0, v1, v2, he, k0, k1, k2, hsq, p1, p2, p3, p4, p5, p6⟩ := own_three hms (by first | omega | (simp; omega)) hmb
        have hsn := hsp.symm.trans hsq
        have hbb := hms.2
        injection he with he1 _ he3
        subst he1 he3
        clear hmb hsp hms hsq hown
        have HX := Lib.hid (show (if false then -(secs ns) else secs ns) = (v0 * 3600 + v1 * 60 + v2) by rw [hsn]; rfl)
        clear hsn
        go_wp2_with fail
        go_quiet (fail)
        go_wp2_with fail
        by_cases hr : -604800 ≤ (v0 * 3600 + v1 * 60 + v2) ∧ (v0 * 3600 + v1 * 60 + v2) ≤ 604800
        · obtain ⟨r1, r2⟩ := hr
          obtain ⟨f1, f2⟩ := res_in1 false hR.out HX.out r1 r2
          have F1 := Lib.hid f1
          have F2 := Lib.hid f2
          clear f1 f2
          refine (rtime_yes _ _ (by omega) (by omega)).mono ?_
          rintro e w' ⟨rfl, rfl⟩
          go_wp2_with fail
          go_ret2
          exact ⟨ret2_int (by have := F1.out; omega) F2.out.symm, below_drewN hbb _⟩
        · have hr2 := Lib.hid (show (v0 * 3600 + v1 * 60 + v2) < -604800 ∨ 604800 < (v0 * 3600 + v1 * 60 + v2) by omega)
          clear hr
          obtain ⟨f1, f2⟩ := res_out1 false hR.out HX.out hr2.out
          have F1 := Lib.hid f1
          have F2 := Lib.hid f2
          clear f1 f2
          refine (rtime_no _ _ (by have := hr2.out; omega)).mono ?_
          rintro e w' ⟨rfl, rfl⟩
          go_wp2_with fail
          go_ret2
          exact ⟨ret2_int F1.out.symm F2.out.symm, below_drewN hbb _⟩
end Go.Proofs.YtoaemkljlphieaaDoor
