/- Stage 5: texts that are written as a line, with a tab ahead of it and a comment behind, are read from it (fields5); which texts may be in a line. -/
import Derived.Test.YtigmbkcjmlpfoaaGreatDoorEx
import Derived.Test.YtigmbkcjmlpfoaaGreatDoorMe
import Derived.Test.YtigmbkcjmlpfoaaGreatDoorEraSize
namespace Go.Proofs.YtigmbkcjmlpfoaaGreatDoor
open Go.RowKit
theorem cut_tail (r : List UInt8) (s : List UInt8) (b i : Nat) (fs : List (List UInt8 × Nat)) : cutL (32 :: 35 :: r) (some (s, b, none)) fs i = .inl (fs ++ [(s, b + 1)]) := by
  unfold cutL
  rw [if_neg (by decide), if_neg (by decide), if_pos (by decide)]
  unfold cutL
  rw [if_neg (by decide), if_neg (by decide), if_pos (by decide)]
theorem cut_joined_t (r : List UInt8) : ∀ (l : List (List UInt8)) (s : List UInt8) (b i : Nat) (fs : List (List UInt8 × Nat)), (∀ x ∈ l, ∀ c ∈ x, okc c = true) → fs.length + 1 + l.length ≤ 24 →
    texts (cutL (Lib.joinTail [32] (l.map qt) ++ 32 :: 35 :: r) (some (s, b, none)) fs i) = some (fs.map (·.1) ++ s :: l) := by
  intro l
  induction l with
  | nil =>
    intro s b i fs _ _
    show texts (cutL (32 :: 35 :: r) (some (s, b, none)) fs i) = _
    rw [cut_tail]
    simp [texts]
  | cons x l ih =>
    intro s b i fs h hn
    have e : Lib.joinTail [32] ((x :: l).map qt) ++ 32 :: 35 :: r = 32 :: (qt x ++ (Lib.joinTail [32] (l.map qt) ++ 32 :: 35 :: r)) := by
      show (32 :: (qt x ++ Lib.joinTail [32] (l.map qt))) ++ 32 :: 35 :: r = _
      simp
    rw [e]
    conv => lhs; unfold cutL
    rw [if_neg (by decide), if_neg (by decide), if_pos (by decide)]
    simp only [List.length_cons] at hn
    obtain ⟨i', he⟩ := cut_qt x (Lib.joinTail [32] (l.map qt) ++ 32 :: 35 :: r) (i + 1) (fs ++ [(s, b + 1)]) (h x (by simp)) (by simp; omega)
    rw [he, ih x _ _ _ (fun y hy => h y (by simp [hy])) (by simp; omega)]
    simp
/-- The fields of a line with a tab ahead, and a comment behind. -/
theorem cut_noted (r : List UInt8) (l : List (List UInt8)) (h : ∀ x ∈ l, x.all okc = true) (hn : l.length ≤ 24) (h1 : 1 ≤ l.length) : texts (cutL (9 :: (lineOf l ++ 32 :: 35 :: r)) none [] 0) = some l := by
  have h' : ∀ x ∈ l, ∀ c ∈ x, okc c = true := fun x hx c hc => List.all_eq_true.1 (h x hx) c hc
  cases l with
  | nil => simp at h1
  | cons x l =>
    conv => lhs; unfold cutL
    rw [if_pos (by decide)]
    unfold lineOf
    rw [List.map_cons, Lib.join_cons, List.append_assoc]
    obtain ⟨i', he⟩ := cut_qt x (Lib.joinTail [32] (l.map qt) ++ 32 :: 35 :: r) 1 [] (h' x (by simp)) (by simp)
    rw [he, cut_joined_t r l x _ _ _ (fun y hy => h' y (by simp [hy])) (by simp at hn ⊢; omega)]
    rfl
theorem own_len {w : World} {b : Nat} {e : TypeId} {v : Value} {k n : Nat} {xs : List Value} (h : w.ownsRow b e 1 v k xs) (hk : n = k) : w.ownsRow b e 1 v n xs := by
  subst hk
  exact h
def bts (L : List ByteArray) : List (List UInt8) := L.map (·.data.toList)
theorem bts_getD (L : List ByteArray) (i : Nat) (h : i < L.length) : (⟨((bts L).getD i []).toArray⟩ : ByteArray) = L.getD i ByteArray.empty := by
  rw [List.getD_eq_getElem?_getD, List.getD_eq_getElem?_getD, bts, List.getElem?_map, List.getElem?_eq_getElem h]
  rfl
theorem fcells_get (fs : List (List UInt8 × Nat)) : ∀ i, (h : i < fs.length) → (fcells fs)[i * 2]? = some (.string ⟨fs[i].1.toArray⟩) ∧ (fcells fs)[i * 2 + 1]? = some (.int .i64 (fs[i].2 : Int)) := by
  induction fs with
  | nil => intro i h; simp at h
  | cons x r ih =>
    intro i h
    have e : fcells (x :: r) = .string ⟨x.1.toArray⟩ :: .int .i64 (x.2 : Int) :: fcells r := rfl
    rw [e]
    cases i with
    | zero => exact ⟨rfl, rfl⟩
    | succ i =>
      have := ih i (by simpa using h)
      rw [show (i + 1) * 2 = i * 2 + 1 + 1 by omega, show i * 2 + 1 + 1 + 1 = (i * 2 + 1) + 1 + 1 by omega]
      simp only [List.getElem?_cons_succ, List.getElem_cons_succ]
      exact this
set_option maxRecDepth 100000 in
set_option maxHeartbeats 4000000 in
theorem fields5_ok (g n c : Nat) (L : List ByteArray) (w : World) (h : Bx w g (L.map Value.string)) (hl : L.length = n) (h1 : 1 ≤ n) (h24 : n ≤ 24) (hok : ∀ x ∈ bts L, x.all okc = true) (hz : (lineOf (bts L)).length ≤ 2000) (hs : ∀ t ∈ L, t.size ≤ 4096) :
    Calls Tryz.prog 18 #[.slice (some ⟨g, 0, none⟩) n c] w fun e w' => (∃ g' c', e = .returned (.tuple #[.slice (some ⟨g', 0, none⟩) n c', .bool true]) ∧ n ≤ c' ∧ c' ≤ 9223372036854775807 ∧ Bx w' g' (L.map Value.string)) ∧ Below w.heap.size w w' := by
  have hbl : (bts L).length = n := by unfold bts; rw [List.length_map]; exact hl
  have hJ := join_any (some ⟨g, 0, none⟩) n c (by omega) (bts L) hbl (fun k hk => by
    have hk' : k < (bts L).length := by omega
    rw [List.getD_eq_getElem?_getD, List.getElem?_eq_getElem hk']
    obtain ⟨t, ht, e⟩ := List.mem_map.1 (List.getElem_mem hk')
    have := hs t ht
    have e' : t.data.toList = (bts L)[k] := e
    show (bts L)[k].length ≤ _
    rw [← e']
    have hz : t.data.toList.length = t.size := by simp
    omega) w.heap.size w (Nat.le_refl _) (fun _ => ⟨_, rfl, h.lt, fun i hi => by
      show _ = some (Value.string ⟨((bts L).getD i []).toArray⟩)
      rw [bts_getD L i (by omega), addr_at]
      exact h.txs.at_ i (by omega)⟩)
  have HJ := Lib.hid hJ
  have HOK := Lib.hid hok
  have HL := Lib.hid hl
  have HBL := Lib.hid hbl
  have HZ := Lib.hid hz
  have HN := Lib.hid (cut_noted [32, 110, 111, 116, 101] (bts L) hok (by omega) (by omega))
  clear hJ hok hbl hz h hs hl
  go_enter Tryz.func18, Tryz.ntmps18
  go_wp2_with fail
  refine HJ.out.mono ?_
  rintro e w2 ⟨hE, b2⟩
  obtain rfl : e = tup (lineOf (bts L)) 0 := by
    rcases hE with ⟨h, _⟩ | ⟨_, ⟨s, hs, hn⟩, _⟩ | ⟨_, _, ⟨h, _⟩ | ⟨_, rfl⟩⟩
    · have := HBL.out; omega
    · have := HOK.out s hs
      rw [hn] at this
      cases this
    · have := HZ.out; omega
    · rfl
  unfold tup
  have hsz := size_ba (lineOf (bts L))
  obtain ⟨S2, hS2⟩ : ∃ S2 : ByteArray, (⟨#[9]⟩ : ByteArray) ++ ⟨(lineOf (bts L)).toArray⟩ ++ ⟨#[32, 35, 32, 110, 111, 116, 101]⟩ = S2 := ⟨_, rfl⟩
  have hS2d : S2.data.toList = 9 :: (lineOf (bts L) ++ 32 :: 35 :: [32, 110, 111, 116, 101]) := by
    rw [← hS2]
    simp [ByteArray.data_append]
  have hS2z : S2.size ≤ 2048 := by
    have h1 : S2.data.toList.length = S2.size := by simp
    rw [hS2d] at h1
    simp at h1
    have := HZ.out
    omega
  have hq1 : ¬ 9223372036854775807 < 1 + (⟨(lineOf (bts L)).toArray⟩ : ByteArray).size := by have := HZ.out; omega
  have hq2 : ¬ 9223372036854775807 < 1 + (⟨(lineOf (bts L)).toArray⟩ : ByteArray).size + 7 := by have := HZ.out; omega
  have hq3 : (⟨(lineOf (bts L)).toArray⟩ : ByteArray).size ≤ 2000 := by have := HZ.out; omega
  have HE := Lib.hid hE
  clear hE hsz
  generalize (⟨(lineOf (bts L)).toArray⟩ : ByteArray) = LB at *
  have HR := Lib.hid (show texts (cutL S2.data.toList none [] 0) = some (bts L) by rw [hS2d]; exact HN.out)
  clear hS2d HN
  go_wp2_with fail
  refine (fields_any S2 hS2z _).mono ?_
  rintro e w3 ⟨b3, hF⟩
  have a3 := b2.trans (b3.mono b2.size)
  generalize hRR : cutL S2.data.toList none [] 0 = R at hF
  have hR := HR.out
  rw [hRR] at hR
  cases R with
  | inr _ => cases hR
  | inl fs =>
    injection hR with hR
    obtain ⟨vf, rfl, hvf⟩ := hF
    have hfl : fs.length = n := by have := congrArg List.length hR; rw [List.length_map, HBL.out] at this; exact this
    obtain ⟨AF, cF, rfl⟩ := own_form hvf
    have HFS := Lib.hid hR
    have HVF := Lib.hid hvf
    have HFL := Lib.hid hfl
    rw [hfl]
    clear hR hRR hvf b3 HR hfl hS2 hS2z hq1 hq2 hq3 HE HJ b2
    go_wp2_with fail
    go_loopw [9, 27] (fun v i wr => ∃ k : Nat, k ≤ n ∧ i = .int .i64 k ∧ Hid (wr.ownsRow w3.heap.size 9 1 v k ((L.take k).map Value.string)) ∧ Below w3.heap.size w3 wr) (fun _ i _ => n - (intOf i).toNat)
    case atStart => exact ⟨0, Nat.zero_le _, rfl, Lib.hid (World.ownsRow_nil _ _ _ _), Below.refl _ _⟩
    case round =>
      obtain ⟨k, hk, rfl, hO, b4⟩ := hrel
      by_cases hlt : k < n
      · have hfl := HFL.out
        have hown := HVF.out
        have hcs := @World.ownsRow.cells _ _ _ _ _ _ _ hown
        obtain ⟨gf, rfl, hgl⟩ : ∃ g, AF = some ⟨g, 0, none⟩ ∧ g < w3.heap.size := by
          rcases hown.2 with ⟨he, h0⟩ | ⟨g, cap, cur, he, _, hg, _⟩
          · omega
          · injection he with h1 _ _
            exact ⟨g, h1, lt_blk hg⟩
        obtain ⟨f0, f1⟩ := fcells_get fs k (by omega)
        have c0 := hcs (g := gf) rfl _ _ f0
        have c1 := hcs (g := gf) rfl _ _ f1
        rw [addr_add] at c0 c1
        have d0 := (b4.cell (p := ⟨gf, k * 2, none⟩) hgl).trans c0
        have d1 := (b4.cell (p := ⟨gf, k * 2 + 1, none⟩) hgl).trans c1
        have htx : (⟨fs[k].1.toArray⟩ : ByteArray) = L.getD k ByteArray.empty := by
          have h1 : (fs.map (·.1))[k]? = (bts L)[k]? := by rw [HFS.out]
          rw [List.getElem?_map, List.getElem?_eq_getElem (by omega), bts, List.getElem?_map, List.getElem?_eq_getElem (by rw [HL.out]; exact hlt)] at h1
          simp only [Option.map_some] at h1
          injection h1 with h1
          rw [h1, List.getD_eq_getElem?_getD, List.getElem?_eq_getElem (by rw [HL.out]; exact hlt)]
          rfl
        rw [htx] at d0
        have htk : L.take (k + 1) = L.take k ++ [L.getD k ByteArray.empty] := by
          rw [List.take_succ_eq_append_getElem (by rw [HL.out]; exact hlt), List.getD_eq_getElem?_getD, List.getElem?_eq_getElem (by rw [HL.out]; exact hlt)]
          rfl
        have HTK := Lib.hid htk
        have HLK := Lib.hid (show (L.take k).length = k by rw [List.length_take, HL.out]; omega)
        generalize (fs[k].2 : Int) = cl at d1
        generalize L.getD k ByteArray.empty = X at *
        have hO0 := own_len hO.out HLK.out
        have HO := Lib.hid hO0
        clear hfl hown hcs f0 f1 c0 c1 htx htk hO0 hO
        go_wp2_with (at_builtin; refine wpList_joins rfl (.tmp 31) (.tmp 34) rfl w3.heap.size _ (L.take k) ((HO.out.alloc _).alloc _) rfl (wr.heap.size + 1) 1 1 [X] rfl (Bx.txs (L := [X]) (Bx.mk' (wr.alloc (.cells #[.string X, .int .i64 cl] 77)) (wr.heap.size + 1) #[.string X] 9 (by simp))) rfl (k + 1) (by rw [HLK.out]) (by omega) (by have := b4.size; simp; omega) ?_; intro v1 wN ho1 hg1)
        have bN := ((b4.alloc b4.size (.cells #[.string X, .int .i64 cl] 77)).alloc (by have := b4.size; simp; omega) (.cells #[.string X] 9)).grown hg1 (by have := b4.size; simp; omega) (own_base HO.out)
        rw [← HTK.out] at ho1
        have HO1 := Lib.hid ho1
        clear ho1 hg1 d0 d1
        go_wp2_with fail
        go_roundw
        case rel => exact ⟨k + 1, by omega, by go_num, HO1, bN⟩
        case measure => simp [intOf]; omega
      · obtain rfl : k = n := by omega
        have hT : L.take k = L := List.take_of_length_le (by rw [HL.out]; exact Nat.le_refl _)
        rw [hT] at hO
        obtain ⟨g6, c6, rfl, q1, q2, _, hT6⟩ := own_texts hO.out (by omega) HL.out
        have HT6 := Lib.hid hT6.bx
        have a5 := a3.trans (b4.mono a3.size)
        clear hO hT hT6
        unfold maxLen at q2
        go_wp2_with fail
        go_ret2
        exact ⟨⟨_, _, rfl, q1, by omega, HT6.out⟩, a5⟩
end Go.Proofs.YtigmbkcjmlpfoaaGreatDoor
