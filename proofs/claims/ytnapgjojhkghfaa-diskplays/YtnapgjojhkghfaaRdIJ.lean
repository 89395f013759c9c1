/- The document's lists of files: without, with. -/
import Derived.Test.YtnapgjojhkghfaaRdHJ
import Derived.Maps.AppendAt
import Derived.Test.YtnapgjojhkghfaaCopyJ
namespace Go.Proofs.Ytnapgjojhkghfaa
open Go.RowKit Go.Shelf
set_option maxRecDepth 8000

theorem addrAddR (b off n : Nat) : (⟨b, off, none⟩ : Addr).add n = ⟨b, off + n, none⟩ := by
  by_cases h : n = 0
  · subst h; simp [Addr.add]
  · simp [Addr.add, h]

abbrev zC (z : List (FiD × Value)) : List Value := (z.map fun a => fiC a.1 a.2).flatten

theorem zC_len (z : List (FiD × Value)) : (zC z).length = z.length * 3 := by
  unfold zC
  induction z with
  | nil => rfl
  | cons a l ih => simp only [List.map_cons, List.flatten_cons, List.length_append, ih]; simp; omega

theorem zC_snoc (z : List (FiD × Value)) (f : FiD) (u : Value) : zC (z ++ [(f, u)]) = zC z ++ fiC f u := by
  unfold zC; simp

theorem zC_img (z : List (FiD × Value)) : imgC (z.map Prod.fst) (z.map Prod.snd) = zC z := by
  unfold imgC zC
  induction z with
  | nil => rfl
  | cons a l ih => simp only [List.map_cons, List.zipWith_cons_cons, List.flatten_cons, ih]

/-- A list of files that was made since w. -/
structure OutZ (w wr : World) (v : Value) (z : List (FiD × Value)) : Prop where
  own : wr.ownsRow w.heap.size 63 3 v z.length (zC z)
  bel : Below w.heap.size w wr

theorem OutZ.img {w wr : World} {v : Value} {z : List (FiD × Value)} (h : OutZ w wr v z) (hb : ∀ a ∈ z, Owns w 0 a.2 a.1.bytes) : ImgAt wr 0 v (z.map Prod.fst) (z.map Prod.snd) := by
  refine ⟨by simp, ?_, fun i u f hu hf => ?_⟩
  · rw [zC_img, List.length_map]
    obtain ⟨h1, h2⟩ := h.own
    refine ⟨h1, ?_⟩
    rcases h2 with h2 | ⟨g, cap, cur, e, h3, h4⟩
    · exact .inl h2
    · exact .inr ⟨g, cap, cur, e, Nat.zero_le _, h4⟩
  · rw [List.getElem?_map] at hu hf
    cases hz : z[i]? with
    | none => rw [hz] at hu; cases hu
    | some a =>
      rw [hz] at hu hf
      cases hu
      cases hf
      have ho := hb a (List.mem_of_getElem? hz)
      exact ho.kept (Below.kept h.bel) (fun k e e' => by have := rows_ltK ho e; omega)

theorem OutZ.new {w wr : World} {v : Value} {z : List (FiD × Value)} (h : OutZ w wr v z) {k : Nat} (hk : v.ownBlock = some k) : w.heap.size ≤ k := (h.own.lt k hk).1

/-- A file of a list, some room taken later. -/
theorem img_at {w wr : World} {B : Nat} {v : Value} {fs : List FiD} {vs : List Value} (h : ImgAt w B v fs vs) (hb : Below w.heap.size w wr) (i : Nat) (hi : i < fs.length) : ∃ g c u, v = .slice (some ⟨g, 0, none⟩) fs.length c ∧ (fs.zip vs)[i]? = some (fs[i], u) ∧ wr.cell? ⟨g, i * 3, none⟩ = some (.string fs[i].name) ∧ wr.cell? ⟨g, i * 3 + 1, none⟩ = some u ∧ wr.cell? ⟨g, i * 3 + 2, none⟩ = some (.int .i64 fs[i].dur) ∧ Owns wr B u fs[i].bytes := by
  have h' := h.kept (Below.kept hb) (fun j e => .inr e)
  obtain ⟨hl, ⟨_, e⟩ | ⟨g, cap, cur, e, _, _, h4, h5, _⟩⟩ := h.own
  · rw [e] at hi; simp at hi
  · subst e
    obtain ⟨u, hu, a0, a1, a2, ho⟩ := h'.cells i hi
    refine ⟨g, cap, u, rfl, ?_, a0, a1, a2, ho⟩
    rw [List.getElem?_zip_eq_some]
    exact ⟨List.getElem?_eq_getElem hi, hu⟩

theorem img_shape {w : World} {B : Nat} {v : Value} {fs : List FiD} {vs : List Value} (h : ImgAt w B v fs vs) : ∃ fa fc, v = .slice fa fs.length fc ∧ fs.length ≤ fc ∧ fc ≤ 9223372036854775807 := by
  obtain ⟨_, ⟨e, e0⟩ | ⟨g, cap, cur, e, _, _, h4, h5, _⟩⟩ := h.own
  · exact ⟨none, 0, by rw [e, e0], by rw [e0]; omega, by omega⟩
  · unfold maxLen at h5
    exact ⟨_, _, e, h4, by omega⟩

set_option maxHeartbeats 1000000 in
theorem refWithout_any {w : World} {B : Nat} {v : Value} {fs : List FiD} {vs : List Value} (h : ImgAt w B v fs vs) (hfew : fs.length ≤ 64) (n : ByteArray) :
    Calls Try.prog 74 #[v, .string n] w fun e w' => ∃ v', e = .returned v' ∧ OutZ w w' v' ((fs.zip vs).filter fun a => decide (a.1.name ≠ n)) := by
  obtain ⟨fa, fc, rfl, hfc, hfm⟩ := img_shape h
  obtain ⟨N, hN⟩ : ∃ N, N = fs.length := ⟨_, rfl⟩
  have hzl : (fs.zip vs).length = N := by rw [List.length_zip, h.len, hN]; omega
  obtain ⟨z, hz⟩ : ∃ z, z = fs.zip vs := ⟨_, rfl⟩
  have HH : Hid _ := h
  rw [← hN] at hfew hfc HH ⊢
  rw [← hz] at hzl ⊢
  have HZ : Hid _ := hz
  have HZL : Hid _ := hzl
  have HN : Hid _ := hN
  obtain ⟨i0, hi, hz0, hz1, hz2⟩ := info_parts Try.infoFile
  clear h hN hz hzl
  go_enter Try.func74, Try.ntmps74
  go_wp2_with fail
  go_loopw [5, 6] (fun vo vi wr => ∃ k : Nat, k ≤ N ∧ vi = .int .i64 k ∧ Hid (OutZ w wr vo ((z.take k).filter fun a => decide (a.1.name ≠ n)))) (fun _ vi _ => N - (intOf vi).toNat)
  case atStart => exact ⟨0, Nat.zero_le _, rfl, ⟨World.ownsRow_nil _ _ _ _, Below.refl _ _⟩⟩
  case round =>
    obtain ⟨k, hk, rfl, HO⟩ := hrel
    by_cases hlt : k < N
    · have hlt1 : k < fs.length := by rw [← HN.out]; exact hlt
      obtain ⟨g, c, u, e, hzk, a0, a1, a2, _⟩ := img_at HH.out HO.out.bel k hlt1
      obtain ⟨rfl, hNf, rfl⟩ := Value.slice.inj e
      clear hNf
      rw [← HZ.out] at hzk
      have hzk' : k < z.length := by rw [HZL.out]; exact hlt
      have hzk2 : z[k] = (fs[k], u) := by
        rw [List.getElem?_eq_getElem hzk'] at hzk
        exact Option.some.inj hzk
      have hstep : (z.take (k + 1)).filter (fun a => decide (a.1.name ≠ n)) = (z.take k).filter (fun a => decide (a.1.name ≠ n)) ++ if fs[k].name = n then [] else [(fs[k], u)] := by
        rw [List.take_succ_eq_append_getElem hzk', List.filter_append, hzk2]
        by_cases hq : fs[k].name = n
        · rw [if_pos hq]; simp [hq]
        · rw [if_neg hq]; simp [hq]
      have hlenk : ((z.take k).filter (fun a => decide (a.1.name ≠ n))).length ≤ 64 := by
        refine Nat.le_trans (List.length_filter_le _ _) ?_
        rw [List.length_take]
        omega
      have hsz := HO.out.bel.size
      obtain ⟨x, y, hu2, _, _⟩ : ∃ x y, u = .slice x fs[k].bytes.length y ∧ True ∧ True := by
        obtain ⟨x, y, hu2, _⟩ := own_shape (owns_mono (by assumption) (Nat.zero_le _))
        exact ⟨x, y, hu2, trivial, trivial⟩
      by_cases hn : fs[k].name = n
      · have hb : (fs[k].name.toList == n.toList) = true := by rw [hn]; simp
        have HO2 : Hid (OutZ w wr u5 ((z.take (k + 1)).filter fun a => decide (a.1.name ≠ n))) := by
          show OutZ _ _ _ _
          rw [hstep, if_pos hn, List.append_nil]
          exact HO.out
        clear hstep e hzk hzk2 hu2
        generalize fs[k].name = nm at *
        go_wp2_with fail
        go_roundw
        case rel => exact ⟨k + 1, by omega, by go_num, HO2⟩
        case measure => simp [intOf]; omega
      · have hb : (fs[k].name.toList == n.toList) = false := by
          rw [beq_eq_false_iff_ne]
          exact fun e => hn (toList_inj e)
        have hb2 : ¬ fs[k].name.toList = n.toList := fun e => hn (toList_inj e)
        rw [if_neg hn] at hstep
        have HS : Hid _ := hstep
        clear hstep e hzk hzk2
        generalize fs[k] = f at *
        obtain ⟨nm, bs, du⟩ := f
        simp only at a0 a1 a2 hb hb2 hu2
        generalize ((z.take k).filter fun a => decide (a.1.name ≠ n)) = ys at *
        subst hu2
        go_wp2_with (at_builtin; refine wpList_append_own_at _ rfl _ _ 38 rfl w.heap.size 63 i0 _ 3 48 Try.underlying38 hi hz0 hz1 hz2 rfl (by decide) _ _ _ rfl (row_kept' HO.out.own ((Kept.refl wr (fun _ => False)).alloc _) (fun _ _ h => h)) ⟨wr.heap.size, 0, none⟩ 1 1 [.string nm, .slice x bs.length y, .int .i64 du] rfl rfl ?c1 ?c2 ?c3 ?c4 ?c5 ?_)
        case c2 => exact ⟨rfl, rfl, rfl⟩
        case c3 => unfold maxLen; omega
        case c4 => omega
        case c5 => omega
        intro v' w1 hown' hgrow _ _
        have HR : Hid (OutZ w w1 v' (ys ++ [(⟨nm, bs, du⟩, .slice x bs.length y)])) :=
          ⟨by rw [zC_snoc]; simpa using hown', (HO.out.bel.alloc HO.out.bel.size _).grown hgrow (by simp; omega) (fun k hk => (HO.out.own.lt k hk).1)⟩
        clear hown' hgrow HO a0 a1 a2
        go_wp2
        go_roundw
        case rel => exact ⟨k + 1, by omega, by go_num, by rw [HS.out]; exact HR⟩
        case measure => simp [intOf]; omega
    · obtain rfl : k = N := by omega
      have e : z.take k = z := List.take_of_length_le (by rw [HZL.out]; omega)
      rw [e] at HO
      go_wp2_with fail
      go_ret
      exact ⟨_, rfl, HO.out⟩
end Go.Proofs.Ytnapgjojhkghfaa
