/- Rows of a list's own, whatever size its elements have: an append into its own room, or into a new row that leaves the old one as it was. -/
import Derived.Test.YtdbphdllibffnaaGreatShelfCJ
import Derived.Maps.AppendAt
namespace Go.Proofs.YtdbphdllibffnaaGreat
open Go.RowKit
set_option maxRecDepth 8000

/-- One more element: in its own room, or in a new row, the old one left as it was. -/
theorem app_row {P : Program} {w : World} (base : Nat) (t ty e : TypeId) (i : TypeInfo) (zv : Value) (size bytes : Nat) (ht : P.underlying t = some (.slice e)) (hi : P.info? e = some i) (hz : i.zero = some zv)
    (hsize : i.size = size) (hby : i.bytes = bytes) (hzs : zv.cells.size = size) (hsz : 0 < size) (v : Value) (n : Nat) (xs : List Value) (ho : w.ownsRow base e size v n xs) (m : Nat) (news : List Value) (hn : news.length = size)
    (hm : w.heap[m]? = some (.cells news.toArray e (0, 0))) (h1 : ∀ u ∈ news, u.oneCell' = true) (hl : n ≤ 2000000000) (hb1 : bytes ≤ 1000) (hb : base ≤ w.heap.size) :
    ∃ v' w', (Builtin.append_ #[t, t] ty #[v, .slice (some ⟨m, 0, none⟩) 1 1]).run P w = .ok v' w' ∧ w'.ownsRow base e size v' (n + 1) (xs ++ news) ∧ w.grownBy w' v.ownBlock ∧
      ((∃ g cap, v = .slice (some ⟨g, 0, none⟩) n cap ∧ v' = .slice (some ⟨g, 0, none⟩) (n + 1) cap) ∨ (v'.ownBlock = some w.heap.size ∧ w.grownBy w' none)) := by
  have hnews : ∀ j u, news[j]? = some u → w.cell? ((⟨m, 0, none⟩ : Addr).add j) = some u := fun j u hj => by
    rw [Addr.add_lit, Nat.zero_add, cell_of_row w m j _ _ _ hm, ← Array.getElem?_toList]
    exact hj
  have hby2 : (n + 1) * bytes ≤ 140737488355328 := Nat.le_trans (Nat.mul_le_mul (show n + 1 ≤ 2000000001 by omega) hb1) (by decide)
  obtain ⟨v', w', hr, o1, o2, o3, o4⟩ := run_append_own_at (P := P) w base t ty e i zv size bytes ht hi hz hsize hby hzs hsz v n xs ho ⟨m, 0, none⟩ 1 1 news (by rw [hn, Nat.one_mul]) hnews h1 (by unfold maxLen; omega) hby2 hb
  refine ⟨v', w', hr, o1, o2, ?_⟩
  obtain ⟨hxl, ⟨rfl, h0⟩ | ⟨g, cap, cur, rfl, a2, a3, a4, a5, a6, a7⟩⟩ := ho
  · right
    rcases o4 with o4 | o4
    · obtain ⟨_, ⟨_, h1'⟩ | ⟨g, cap, cur, rfl, _⟩⟩ := o1
      · omega
      · simp [Value.ownBlock] at o4
    · exact ⟨o4, o2⟩
  · by_cases hroom : n + 1 ≤ cap
    · left
      have hfit : n * i.size + news.length ≤ cur.size := by
        have := Nat.mul_le_mul_right size hroom
        rw [Nat.add_mul, Nat.one_mul] at this
        rw [hsize, a6, hn]
        exact this
      have h2 := run_append_room (P := P) w t ty e i ht hi g n cap cur a3 ⟨m, 0, none⟩ 1 1 news (by rw [hn, hsize, Nat.one_mul]) hnews h1 hroom hfit
      rw [hr] at h2
      injection h2 with e1 e2
      exact ⟨g, cap, rfl, e1⟩
    · right
      have holds : ∀ j u, xs[j]? = some u → w.cell? ((⟨g, 0, none⟩ : Addr).add j) = some u := fun j u hj => by
        rw [Addr.add_lit, Nat.zero_add, cell_of_row w g j _ _ _ a3, ← Array.getElem?_toList]
        rw [← a7, List.getElem?_take] at hj
        split at hj
        · exact hj
        · cases hj
      have h2 := run_append_grow (P := P) w t ty e i zv ht hi hz ⟨g, 0, none⟩ n cap xs (by rw [hxl, hsize]) holds ⟨m, 0, none⟩ 1 1 news (by rw [hn, hsize, Nat.one_mul]) hnews (by omega) (by omega) (growslice_fits (by omega) (by rw [hby]; exact hby2))
      rw [hr] at h2
      injection h2 with e1 e2
      rw [e1, e2]
      exact ⟨rfl, rfl, rfl, rfl, by simp, fun k hk _ => heap_alloc_old w.drew _ hk⟩

end Go.Proofs.YtdbphdllibffnaaGreat
