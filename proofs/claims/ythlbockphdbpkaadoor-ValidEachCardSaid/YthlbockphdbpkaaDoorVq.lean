/- Two links more, of new names, that lead to one another: just these two are flaws; no walk. -/
import Derived.Test.YthlbockphdbpkaaDoorVm
namespace Go.Proofs.YthlbockphdbpkaaDoor
open Go.RowKit
theorem upto_flat {α : Type} {f : α → List Fl} {l : List α} : ∀ n, n ≤ l.length → Vd.upto (fun _ x => f x) l n = (l.take n).flatMap f
  | 0, _ => by rw [List.take_zero]; rfl
  | n + 1, h => by
    rw [upto_snoc (fun _ x => f x) l n l[n] (List.getElem?_eq_getElem h), upto_flat n (by omega), List.take_succ_eq_append_getElem h, List.flatMap_append]
    simp
theorem upto_flat' {α : Type} {f : α → List Fl} {l : List α} : Vd.upto (fun _ x => f x) l l.length = l.flatMap f := by
  rw [upto_flat _ (Nat.le_refl _), List.take_length]
theorem look_skip {x : ByteArray} {M : List Lk} : ∀ {K : List Lk}, x ∉ K.map Lk.nm → Ld.look x (K ++ M) = Ld.look x M
  | [], _ => rfl
  | k :: l, h => by
    rw [List.map_cons] at h
    rw [List.cons_append]
    conv => lhs; unfold Ld.look
    rw [if_neg (fun e => h (List.mem_cons.2 (.inl e.symm)))]
    exact look_skip (fun h' => h (List.mem_cons.2 (.inr h')))
theorem nx_two {Z : List ByteArray} {K : List Lk} {a b : ByteArray} (ha : a ∉ Z ++ K.map Lk.nm) (hb : b ∉ Z ++ K.map Lk.nm) (hab : a ≠ b) :
    Ld.nx Z (K ++ [⟨a, b⟩, ⟨b, a⟩]) a = some b ∧ Ld.nx Z (K ++ [⟨a, b⟩, ⟨b, a⟩]) b = some a := by
  rw [List.mem_append, not_or] at ha hb
  unfold Ld.nx
  rw [if_neg (by rw [inb_iff]; exact ha.1), if_neg (by rw [inb_iff]; exact hb.1), look_skip ha.2, look_skip hb.2]
  constructor
  · unfold Ld.look
    rw [if_neg (Ne.symm hab)]
    unfold Ld.look
    rw [if_pos rfl]
  · unfold Ld.look
    rw [if_pos rfl]
theorem zn_two {Z : List ByteArray} {K : List Lk} {a b : ByteArray} (ha : a ∉ Z ++ K.map Lk.nm) (hb : b ∉ Z ++ K.map Lk.nm) (hab : a ≠ b) :
    Ld.zn Z (K ++ [⟨a, b⟩, ⟨b, a⟩]) a = (0, 9) ∧ Ld.zn Z (K ++ [⟨a, b⟩, ⟨b, a⟩]) b = (0, 9) := by
  obtain ⟨h1, h2⟩ := nx_two ha hb hab
  constructor
  · refine zn_again (k := 1) ?_ (by rw [h1]; exact fun e => by cases e)
    show Ld.st _ _ (Ld.st _ _ a) = a
    rw [st_some h1, st_some h2]
  · refine zn_again (k := 1) ?_ (by rw [h2]; exact fun e => by cases e)
    show Ld.st _ _ (Ld.st _ _ b) = b
    rw [st_some h2, st_some h1]
theorem all_round {d d' : Sd} {a b : ByteArray} (hr : d'.rs = d.rs) (hz : d'.zs = d.zs) (hl : d'.ls = d.ls ++ [⟨a, b⟩, ⟨b, a⟩]) (h : Vd.all d = []) (ha : a ∉ d.names) (hb : b ∉ d.names) (hab : a ≠ b) : Vd.all d' = [⟨9, b⟩, ⟨9, a⟩] := by
  obtain ⟨h1, h2, h3, h4⟩ := all_nil.1 h
  have hn : d'.names = d.names ++ [b, a] := by unfold Sd.names; rw [hz, hl, List.map_append, List.append_assoc]; rfl
  have e1 : Vd.tw d'.names = [] := tw_nil.2 (by
    rw [hn]
    refine List.nodup_append.2 ⟨h1, List.nodup_cons.2 ⟨by simpa using Ne.symm hab, List.nodup_cons.2 ⟨by simp, List.nodup_nil⟩⟩, fun x hx y hy e => ?_⟩
    subst e
    rcases List.mem_cons.1 hy with rfl | hy
    · exact hb hx
    · rw [List.mem_singleton.1 hy] at hx
      exact ha hx)
  have e2 : Vd.rl d'.rs d'.zs d'.zs.length = [] := by rw [hr, hz]; exact rl_nil.2 h2
  have e3 : Vd.or d'.zs d'.zs.length = [] := by rw [hz]; exact or_nil.2 h3
  obtain ⟨z1, z2⟩ := zn_two (Z := d.zs.map Zd.nm) (K := d.ls) ha hb hab
  have e4 : Vd.ul (d'.zs.map Zd.nm) d'.ls d'.ls.length = [⟨9, b⟩, ⟨9, a⟩] := by
    rw [hz, hl]
    unfold Vd.ul
    refine Eq.trans (upto_flat' (f := Vd.ulF (d.zs.map Zd.nm) (d.ls ++ [⟨a, b⟩, ⟨b, a⟩])) (l := d.ls ++ [⟨a, b⟩, ⟨b, a⟩])) ?_
    rw [List.flatMap_append]
    have k0 : d.ls.flatMap (Vd.ulF (d.zs.map Zd.nm) (d.ls ++ [⟨a, b⟩, ⟨b, a⟩])) = [] := by
      rw [List.flatMap_eq_nil_iff]
      intro k hk
      unfold Vd.ulF
      rw [if_pos (by rw [zn_more (h4 k hk)]; exact h4 k hk)]
    rw [k0, List.nil_append, List.flatMap_cons, List.flatMap_cons, List.flatMap_nil, List.append_nil]
    unfold Vd.ulF
    dsimp only
    rw [z1, z2]
    rfl
  unfold Vd.all
  rw [e1, e2, e3, e4]
  rfl
end Go.Proofs.YthlbockphdbpkaaDoor
