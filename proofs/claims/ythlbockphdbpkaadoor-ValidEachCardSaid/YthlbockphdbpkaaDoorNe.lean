/- The iterator over the names of a source, each one once (lead.Each). -/
import Derived.Test.YthlbockphdbpkaaDoorNo
import Derived.Sort.QuietIn
namespace Go.Proofs.YthlbockphdbpkaaDoor
open Go.RowKit Go.Maps Go.Shelf
set_option maxRecDepth 100000
attribute [local go_sem] Oper.semAt_some
theorem Nms.kp {W W' : World} {B n v : Nat} {Z : List ByteArray} {K : List Lk} {g : Nat} {d : Nd} (h : Nms W B Z K g d) (hk : KpB n v W W') (hn : B ≤ n) (hv : B ≤ v) : Nms W' B Z K g d := by
  have hb : ∀ k, k < B → W'.heap[k]? = W.heap[k]? := fun k hk' => hk.block k (by omega) (by omega)
  refine ⟨h.gb, fun i u hu => (World.cell?_of_block (a := ⟨g, i, none⟩) (hb g h.gb)).trans (h.at_ i u hu), fun h0 => ?_, h.mb, ?_, h.fm, h.cp⟩
  · obtain ⟨b, o, e, hbB, hc⟩ := h.tx h0
    exact ⟨b, o, e, hbB, fun j u hu => (World.cell?_of_block (a := ⟨b, o + j, none⟩) (hb b hbB)).trans (hc j u hu)⟩
  · obtain ⟨es, ck, h1, h2⟩ := h.mp
    exact ⟨es, ck, (hb _ h.mb).trans h1, h2⟩
abbrev Nq (L : List ByteArray) := { x : ByteArray // x ∈ L }
def nqVals {L : List ByteArray} (x : Nq L) : Array Value := #[.string x.1]
/-- Those of the first k that stand there first. -/
def uqk (L : List ByteArray) : (k : Nat) → k ≤ L.length → List (Nq L)
  | 0, _ => []
  | k + 1, h => if Ld.ix (L[k]'h) L = k then uqk L k (Nat.le_of_succ_le h) ++ [⟨L[k]'h, List.getElem_mem h⟩] else uqk L k (Nat.le_of_succ_le h)
theorem uqk_len (L : List ByteArray) : ∀ (k : Nat) (h : k ≤ L.length), (uqk L k h).length ≤ k
  | 0, _ => Nat.le_refl _
  | k + 1, h => by
    have ih := uqk_len L k (Nat.le_of_succ_le h)
    unfold uqk
    by_cases e : Ld.ix (L[k]'h) L = k
    · rw [if_pos e, List.length_append]
      exact Nat.succ_le_succ ih
    · rw [if_neg e]
      omega
theorem uqk_mem (L : List ByteArray) (x : ByteArray) : ∀ (k : Nat) (h : k ≤ L.length), x ∈ (uqk L k h).map (·.1) ↔ x ∈ L ∧ Ld.ix x L < k
  | 0, _ => by simp [uqk]
  | k + 1, h => by
    have ih := uqk_mem L x k (Nat.le_of_succ_le h)
    unfold uqk
    by_cases e : Ld.ix (L[k]'h) L = k
    · rw [if_pos e, List.map_append, List.mem_append, ih]
      constructor
      · rintro (⟨h1, h2⟩ | h1)
        · exact ⟨h1, by omega⟩
        · have : x = L[k]'h := by simpa using h1
          subst this
          exact ⟨List.getElem_mem h, by omega⟩
      · rintro ⟨h1, h2⟩
        by_cases hk : Ld.ix x L < k
        · exact .inl ⟨h1, hk⟩
        · have hx := ix_at h1
          have : Ld.ix x L = k := by omega
          rw [this, List.getElem?_eq_getElem h] at hx
          injection hx with hx
          exact .inr (by simp [hx])
    · rw [if_neg e, ih]
      constructor
      · rintro ⟨h1, h2⟩
        exact ⟨h1, by omega⟩
      · rintro ⟨h1, h2⟩
        refine ⟨h1, ?_⟩
        rcases Nat.lt_or_ge (Ld.ix x L) k with hl | hg
        · exact hl
        · have hx := ix_at h1
          have hk : Ld.ix x L = k := by omega
          rw [hk, List.getElem?_eq_getElem h] at hx
          injection hx with hx
          rw [hx] at e
          exact absurd hk e
theorem names_ix {Z : List ByteArray} {K : List Lk} {x : ByteArray} (h : x ∈ Z ++ K.map Lk.nm) : Ld.ix x (Ld.all Z K) = Ld.ix x (Z ++ K.map Lk.nm) := ix_append_in h
set_option maxHeartbeats 8000000 in
theorem each1_in (n : Nat) (hn : 1 ≤ n) (l Bs n₀ v B : Nat) (Z : List ByteArray) (K : List Lk) (g : Nat) (d : Nd) (N : Nat) (hN : (Z ++ K.map Lk.nm).length = N) (hlen : (Ld.all Z K).length ≤ 4096)
    (hsz : ∀ x ∈ Ld.all Z K, x.size ≤ 9223372036854775807) (hv : B ≤ v) (hB : B ≤ n₀) (hBs : Bs < n₀) (hBv : Bs ≠ v) (J Jx : List (Nq (Z ++ K.map Lk.nm)) → World → Prop) (hJ0 : ∀ pre W q, J pre W → J pre (World.drewN W q))
    (hY : ∀ pre x W, J pre W → pre.length < N → YieldAt Fence.wide (n - 1) Tryd.prog l (nqVals x) W fun e W' =>
      (e = .returned (.bool true) ∧ J (pre ++ [x]) W' ∧ KpB n₀ v W W') ∨ (e = .returned (.bool false) ∧ Jx (pre ++ [x]) W'))
    (W : World) (hc : W.cell? ⟨Bs, 0, none⟩ = some (.pointer (some ⟨g, 0, none⟩))) (hM : Nms W B Z K g d) (h0 : J [] W) :
    CallsIn Fence.wide n Tryd.prog 37 #[.func (.yield l) #[] #[], .pointer (some ⟨Bs, 0, none⟩)] W fun e W' => (∃ v, e = .returned v) ∧
      ((∃ ys, (∃ h, ys = uqk (Z ++ K.map Lk.nm) N h) ∧ J ys W') ∨ (∃ pre, Jx pre W')) := by
  have HNN := Lib.hid hN
  have hal := all_len Z K
  have hcp := hM.cp
  have hnz : N = Z.length + K.length := by rw [← hN, List.length_append, List.length_map]
  have c0 := hM.at_ 0 _ rfl
  have c1 := hM.at_ 1 _ rfl
  have c2 := hM.at_ 2 _ rfl
  have hgb := hM.gb
  have HM := Lib.hid hM
  clear hN hM
  have t2 : IntKind.i64.wrap ((Z.length : Int) + (K.length : Int)) = (Z.length : Int) + (K.length : Int) := IntWalk.i64_in _ (by omega)
  have t3 : ((Z.length : Int) + (K.length : Int)).toNat = N := by omega
  have t4 : (0 : Int) ≤ (Z.length : Int) + (K.length : Int) := by omega
  have t5 : (Z.length : Int) + (K.length : Int) ≤ (d.c : Int) := by omega
  have t6 : N ≤ d.c := by omega
  have t7 : N ≤ 4096 := by omega
  have HNZ := Lib.hid hnz
  clear hal hnz
  generalize (Ld.all Z K).length = nA at *
  generalize hzz : Z.length = z at *
  generalize hkk : K.length = m at *
  have HZZ := Lib.hid hzz
  have HKK := Lib.hid hkk
  clear hzz hkk
  refine callsIn_of_wp Tryd.func37 rfl trivial ?_ rfl
  simp only [Tryd.ntmps37, List.size_toArray, List.length_cons, List.length_nil, Nat.reduceAdd, Nat.reduceSub, Array.replicate_succ, Array.replicate_zero, List.push_toArray, List.append_toArray, List.nil_append, List.cons_append]
  gi_wp2
  gi_quiet (fail)
  gi_wp2
  clear c0 c1 c2
  gi_loopw [20] (fun i wr => ∃ (k : Nat) (h : k ≤ (Z ++ K.map Lk.nm).length), i = .int .i64 k ∧ J (uqk (Z ++ K.map Lk.nm) k h) wr ∧ KpB n₀ v W wr) (fun i _ => N - (intOf i).toNat)
  case atStart => exact ⟨0, Nat.zero_le _, rfl, hJ0 _ _ _ h0, ⟨Nat.le_refl _, fun _ _ _ => rfl⟩⟩
  case round =>
    obtain ⟨k, hk, rfl, hJ, hkp⟩ := hrel
    have hkN : k ≤ N := by rw [← HNN.out]; exact hk
    by_cases hlt : k < N
    · have hk1 : k < (Z ++ K.map Lk.nm).length := by rw [HNN.out]; exact hlt
      have hMk := HM.out.kp hkp hB hv
      have hcb := (hkp.cell (p := ⟨Bs, 0, none⟩) hBs hBv).trans hc
      have n3 := hMk.at_ 3 _ rfl
      have hmem : (Z ++ K.map Lk.nm)[k]'hk1 ∈ Z ++ K.map Lk.nm := List.getElem_mem hk1
      have hmal : (Z ++ K.map Lk.nm)[k]'hk1 ∈ Ld.all Z K := List.mem_append.2 (.inl hmem)
      have hak : (Ld.all Z K)[k]? = some ((Z ++ K.map Lk.nm)[k]'hk1) := by
        unfold Ld.all
        rw [List.getElem?_append_left hk1]
        exact List.getElem?_eq_getElem hk1
      obtain ⟨ab, ao, eA, habB, hcs⟩ := hMk.tx (by rw [List.length_map]; exact Nat.lt_of_le_of_lt (Nat.zero_le _) (List.getElem?_eq_some_iff.1 hak).1)
      have cs := hcs k (.string ((Z ++ K.map Lk.nm)[k]'hk1)) (by rw [List.getElem?_map, hak]; rfl)
      rw [eA]
      have hrun := nlook_run hMk hmal (hsz _ hmal) 0
      rw [World.drewN_zero, names_ix hmem] at hrun
      have hrest : ∀ e, Ld.ix ((Z ++ K.map Lk.nm)[k]'hk1) (Z ++ K.map Lk.nm) = k → e = uqk (Z ++ K.map Lk.nm) k (Nat.le_of_succ_le hk1) ++ [⟨(Z ++ K.map Lk.nm)[k]'hk1, hmem⟩] → e = uqk (Z ++ K.map Lk.nm) (k + 1) hk1 := fun e h1 h2 => by
        rw [h2]
        show _ = uqk (Z ++ K.map Lk.nm) (k + 1) hk1
        rw [uqk, if_pos h1]
      have hskip : Ld.ix ((Z ++ K.map Lk.nm)[k]'hk1) (Z ++ K.map Lk.nm) ≠ k → uqk (Z ++ K.map Lk.nm) (k + 1) hk1 = uqk (Z ++ K.map Lk.nm) k (Nat.le_of_succ_le hk1) := fun h1 => by rw [uqk, if_neg h1]
      have HREST := Lib.hid hrest
      have HSKIP := Lib.hid hskip
      have HKP := Lib.hid hkp
      have hul := uqk_len (Z ++ K.map Lk.nm) k hk
      clear hrest hskip hkp hMk hcs hak hmal eA
      by_cases hf : Ld.ix ((Z ++ K.map Lk.nm)[k]'hk1) (Z ++ K.map Lk.nm) = k
      · rw [hf] at hrun
        obtain ⟨fn, tmps, assign, body, hy, hR⟩ := hY _ ⟨(Z ++ K.map Lk.nm)[k]'hk1, hmem⟩ wr hJ (by omega)
        have HFF := Lib.hid hf
        clear hf
        simp only [nqVals] at hy
        gi_wp2
        refine hR.mono ?_
        rintro e W3 (⟨rfl, hJ3, hk3⟩ | ⟨rfl, hJx3⟩)
        · gi_wp2
          go_roundw
          case rel => exact ⟨k + 1, hk1, by go_num, by rw [← HREST.out _ HFF.out rfl]; exact hJ3, HKP.out.trans hk3⟩
          case measure => simp [intOf]; omega
        · gi_wp2
          refine bodyPost_ret (results_none rfl _ _ _) rfl ?_
          exact ⟨⟨_, rfl⟩, .inr ⟨_, hJx3⟩⟩
      · have HFF := Lib.hid hf
        generalize hq : Ld.ix ((Z ++ K.map Lk.nm)[k]'hk1) (Z ++ K.map Lk.nm) = q at *
        have HQ := Lib.hid hq
        clear hq
        have t7 : ((q : Int) == (k : Int)) = false := by rw [beq_eq_false_iff_ne]; omega
        have t8 : (q == k) = false := by rw [beq_eq_false_iff_ne]; exact hf
        have t9 : decide (q = k) = false := decide_eq_false hf
        gi_wp2
        refine ⟨fun _ h => (by cases h), ?_⟩
        gi_wp2
        go_roundw
        case rel => exact ⟨k + 1, hk1, by go_num, by rw [HSKIP.out HFF.out]; exact hJ, HKP.out⟩
        case measure => simp [intOf]; omega
    · obtain rfl : k = N := by omega
      gi_wp2
      go_end0
      exact ⟨⟨_, rfl⟩, .inl ⟨_, ⟨_, rfl⟩, hJ⟩⟩
end Go.Proofs.YthlbockphdbpkaaDoor
