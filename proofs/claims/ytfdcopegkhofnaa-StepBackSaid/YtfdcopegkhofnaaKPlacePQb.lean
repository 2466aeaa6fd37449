/-
  The law's own place: the parent of the first node of an id, and its place. No condition but that there are not too many nodes.
  Where a node stands that place tells, plainly: in a tree whose ids are all different it is where the path goes. No condition.
-/
import Derived.Deep.Cut
import Derived.Test.YtfdcopegkhofnaaKIdsMQb
import Derived.Test.YtfdcopegkhofnaaKBackPQb
namespace Go.Proofs.Ytfdcopegkhofnaa
open Go.RowKit Go.Shelf
open Go.Maps
set_option linter.unusedVariables false
set_option linter.unusedSimpArgs false

/-- What place answers. -/
def PlaceC (w : World) (T : List Sp) (id : Int) (e : Ending) (w' : World) : Prop := ∃ (p i : Int) (b : Bool), e = .returned (.tuple #[.int .i64 p, .int .i64 i, .bool b]) ∧ (b = true → ∃ x ∈ T, ∃ (j : Nat) (v : Tr), p = x.2.1.1 ∧ i = (j : Int) ∧ kidF x.2.2 j = some v ∧ v.id = id) ∧ (b = false → ∀ x ∈ T, ∀ (j : Nat) (v : Tr), kidF x.2.2 j = some v → v.id ≠ id) ∧ Below w.heap.size w w'
set_option maxRecDepth 100000 in
set_option maxHeartbeats 4000000 in
theorem place_any (w : World) (S : Nat → Prop) (nv : Value) (t : Tr) (id : Int) (hlen : foLen t.kids ≤ 9223372036854775807) (hfit : foFit t.kids) (hS : ∀ y, S y → y < w.heap.size) (ht : TrAt w S nv t) (hsz : foSize t.kids ≤ 1000000) :
    Calls Try.prog 72 #[nv, .int .i64 id] w (PlaceC w ((spF 1 (rootF t)).take 251) id) := by
  obtain ⟨ka, cap, rfl, hcp, hk⟩ := ht
  obtain ⟨len, hl⟩ : ∃ len, len = foLen t.kids := ⟨_, rfl⟩
  obtain ⟨B, hB⟩ : ∃ B, B = w.alloc (.cells #[.int .i64 t.id, .int .i64 t.kind, .string t.text, .slice ka len cap] 24) := ⟨_, rfl⟩
  have hb : Below w.heap.size w B := by rw [hB, hl]; exact (Below.refl _ _).alloc (Nat.le_refl _) _
  have hc := walkM_any 251 (by omega) B S (.agg #[.int .i64 t.id, .int .i64 t.kind, .string t.text, .slice ka len cap]) t hlen hfit (fun k hk => Nat.lt_of_lt_of_le (hS k hk) hb.size) ⟨ka, cap, by rw [hl], hcp, hk.below hb hS⟩
  obtain ⟨T, hT⟩ : ∃ T, T = (spF 1 (rootF t)).take 251 := ⟨_, rfl⟩
  have hbig : ∀ x ∈ T, foLen x.2.2 ≤ 1000000 := fun x hx => by
    have := (spF_mem_size 1 (rootF t) x (List.mem_of_mem_take (by rw [← hT]; exact hx))).1
    have := foLen_le x.2.2
    have := rootF_size t
    omega
  have HC := Lib.hid (And.intro hc (And.intro hb hbig))
  have HBE := Lib.hid hB
  have HTE := Lib.hid hT
  rw [← hl, ← hT]
  clear hc hb hk hfit hS hcp hB hlen hl hbig hsz
  go_enter Try.func72, Try.ntmps72
  go_wp2_with fail
  change Calls _ _ _ (w.alloc (.cells #[.int .i64 t.id, .int .i64 t.kind, .string t.text, .slice ka len cap] 24)) _
  rw [← HBE.out]
  refine HC.out.1.mono ?_
  rintro e w2 ⟨a, cap', rfl, hsp, hb2⟩
  rw [← hT] at hsp ⊢
  obtain ⟨n, hn⟩ : ∃ n, n = T.length := ⟨_, rfl⟩
  rw [← hn] at hsp ⊢
  have hn2 : n ≤ 251 := by rw [hn, hT, List.length_take]; omega
  have HBW := Lib.hid (HC.out.2.1.trans (hb2.mono HC.out.2.1.size))
  have HO := Lib.hid (And.intro hsp (And.intro hn HC.out.2.2))
  clear hb2 hn hsp hT HC HBE
  go_wp2_with fail
  go_loopw [13] (fun i wr => ∃ k : Nat, k ≤ n ∧ i = .int .i64 (k : Int) ∧ Hid (Below w2.heap.size w2 wr ∧ ∀ x ∈ T.take k, ∀ (j : Nat) (v : Tr), kidF x.2.2 j = some v → v.id ≠ id)) (fun i _ => n - (intOf i).toNat)
  case atStart => exact ⟨0, Nat.zero_le _, rfl, Lib.hid ⟨Below.refl _ _, by simp⟩⟩
  case round =>
    obtain ⟨k, hk, rfl, hh⟩ := hrel
    by_cases hlt : k < n
    · have hki : (k : Int) < (n : Int) := by omega
      obtain ⟨x, hx⟩ : ∃ x, T[k]? = some x := ⟨_, List.getElem?_eq_getElem (by rw [← HO.out.2.1]; exact hlt)⟩
      obtain ⟨g, rfl, hg, c0, c1, c2, ⟨xa, xc, c3, hxc, hxk⟩, c4⟩ := spots_ge HO.out.1 hx
      have hcap : n ≤ cap' := by
        obtain ⟨_, xs, ho, _⟩ := HO.out.1
        rcases ho.2 with ⟨hv, h0⟩ | ⟨_, _, _, hv, _, _, h3, _⟩
        · cases hv
        · cases hv; exact h3
      obtain ⟨xn, hxn⟩ : ∃ xn, xn = foLen x.2.2 := ⟨_, rfl⟩
      have hx6 : xn ≤ 1000000 := by rw [hxn]; exact HO.out.2.2 x (List.mem_of_getElem? hx)
      rw [← hxn] at c3 hxc
      have hkp : ∀ j v, w2.cell? ⟨g, j, none⟩ = some v → wr.cell? ⟨g, j, none⟩ = some v := fun j v h => (World.cell?_of_block (a := ⟨g, j, none⟩) (hh.out.1.block g hg)).trans h
      have c0 := hkp _ _ c0
      have c1 := hkp _ _ c1
      have c2 := hkp _ _ c2
      have c3 := hkp _ _ c3
      have c4 := hkp _ _ c4
      have hsl : ∀ y, y < w2.heap.size ∧ (∃ v, w2.heap[y]? = some v) → True := fun _ _ => True.intro
      obtain ⟨W1, hW1⟩ : ∃ W1, W1 = wr.alloc (.cells #[.int .i64 x.2.1.1, .int .i64 x.2.1.2.1, .string x.2.1.2.2, .slice xa xn xc, .int .i64 (x.1 : Int)] 51) := ⟨_, rfl⟩
      have hb1 : Below wr.heap.size wr W1 := by rw [hW1]; exact box_below _ _
      have hx1 : W1.heap[wr.heap.size]? = some (.cells #[.int .i64 x.2.1.1, .int .i64 x.2.1.2.1, .string x.2.1.2.2, .slice xa xn xc, .int .i64 (x.1 : Int)] 51 (0, 0)) := by rw [hW1]; exact heap_alloc_new wr _
      have hcx : W1.cell? ⟨wr.heap.size, 0, none⟩ = some (.int .i64 x.2.1.1) ∧ W1.cell? ⟨wr.heap.size, 3, none⟩ = some (.slice xa xn xc) := ⟨by rw [cell_of_row _ _ 0 _ _ _ hx1]; rfl, by rw [cell_of_row _ _ 3 _ _ _ hx1]; rfl⟩
      have hxk1 : FoAt w2 S x.2.2 xa := hxk
      have hkid : ∀ (j : Nat) (v : Tr), kidF x.2.2 j = some v → ∃ kb ko, xa = some ⟨kb, ko, none⟩ ∧ W1.cell? ⟨kb, ko + j * 4, none⟩ = some (.int .i64 v.id) := fun j v hv => by
        obtain ⟨b0, o0, key, l, r, hd, kb, ko, na, nc, e, _, d0, _⟩ := hxk1.at j (kidF_some hv)
        have : v = ⟨key.1, key.2.1, key.2.2, l⟩ := by rw [kidF, hd] at hv; cases hv; rfl
        subst this
        exact ⟨kb, ko, e, (hb1.cell (World.block_lt_of_cell? _ _ ((hh.out.1.cell (World.block_lt_of_cell? _ _ d0)).trans d0))).trans ((hh.out.1.cell (World.block_lt_of_cell? _ _ d0)).trans d0)⟩
      have HK := Lib.hid (And.intro hkid (And.intro hx (And.intro hxn (And.intro hb1 hlt))))
      have HW1 := Lib.hid hW1
      have HOUT := hh
      clear hkid hx hxn hb1 hlt hW1 hx1 hxk hxk1 hsl hkp hg hk hh
      obtain ⟨cx0, cx3⟩ := hcx
      go_upto_region 4 with fail
      change Code.wp _ _ _ _ (wr.alloc (.cells #[.int .i64 x.2.1.1, .int .i64 x.2.1.2.1, .string x.2.1.2.2, .slice xa xn xc, .int .i64 (x.1 : Int)] 51))
      rw [← HW1.out]
      clear c0 c1 c2 c3 c4
      go_wp2_with fail
      go_loopw [21] (fun j X => ∃ m : Nat, m ≤ xn ∧ j = .int .i64 (m : Int) ∧ X = W1 ∧ Hid (∀ (c : Nat) (v : Tr), c < m → kidF x.2.2 c = some v → v.id ≠ id)) (fun j _ => xn - (intOf j).toNat)
      case atStart => exact ⟨0, Nat.zero_le _, rfl, rfl, Lib.hid fun c v h => by omega⟩
      case round =>
        obtain ⟨m, hm, rfl, hX, hi⟩ := hrel
        rw [hX]
        clear hX
        by_cases hlm : m < xn
        · have hmi : (m : Int) < (xn : Int) := by omega
          obtain ⟨_, _, key, l, _, _, hv0, _⟩ := kidF_lt (f := x.2.2) (j := m) (by rw [← HK.out.2.2.1]; exact hlm)
          obtain ⟨v, hv⟩ : ∃ v, v = (⟨key.1, key.2.1, key.2.2, l⟩ : Tr) := ⟨_, rfl⟩
          rw [← hv] at hv0
          obtain ⟨kb, ko, rfl, d0⟩ := HK.out.1 m v hv0
          have HV := Lib.hid (And.intro hv0 hlm)
          clear hv0 hlm hm hv
          by_cases he : v.id = id
          · have heb : (v.id == id) = true := by simpa using he
            have HE := Lib.hid he
            clear he
            go_wp2_with fail
            go_ret3
            refine ⟨_, _, true, rfl, fun _ => ⟨x, List.mem_of_getElem? HK.out.2.1, m, v, rfl, rfl, HV.out.1, HE.out⟩, (fun h => by cases h), (HBW.out.trans ((HOUT.out.1.trans (HK.out.2.2.2.1.mono HOUT.out.1.size)).mono HBW.out.size))⟩
          · have heb : (v.id == id) = false := by simpa using he
            have HE := Lib.hid he
            clear he
            go_wp2_with fail
            exact ⟨⟨m + 1, by have := HV.out.2; omega, by go_num, (by trivial), Lib.hid fun c u hc hu => by
              rcases Nat.lt_or_ge c m with h1 | h1
              · exact hi.out c u h1 hu
              · have : c = m := by omega
                subst this
                rw [HV.out.1] at hu; cases hu
                exact HE.out⟩, by have := HV.out.2; simp [intOf]; omega⟩
        · have hmi : ¬ (m : Int) < (xn : Int) := by omega
          have hmx : m = xn := by omega
          have HMX := Lib.hid hmx
          clear hmx hlm hm
          go_wp2_with fail
          refine ⟨⟨k + 1, by have := HK.out.2.2.2.2; omega, by go_num, Lib.hid ⟨HOUT.out.1.trans (HK.out.2.2.2.1.mono HOUT.out.1.size), fun y hy j v hv => ?_⟩⟩, by have := HK.out.2.2.2.2; simp [intOf]; omega⟩
          rw [List.take_add_one, HK.out.2.1, List.mem_append] at hy
          rcases hy with hy | hy
          · exact HOUT.out.2 y hy j v hv
          · rw [Option.toList_some, List.mem_singleton] at hy
            subst hy
            exact hi.out j v (by rw [HMX.out, HK.out.2.2.1]; exact kidF_some hv) hv
    · have hki : ¬ (k : Int) < (n : Int) := by omega
      have hkn : k = n := by omega
      have HKN := Lib.hid hkn
      clear hkn hlt hk
      go_wp2_with fail
      go_ret3
      refine ⟨_, _, false, rfl, (fun h => by cases h), fun _ => ?_, HBW.out.trans (hh.out.1.mono HBW.out.size)⟩
      have h := hh.out.2
      rw [HKN.out, List.take_of_length_le (by rw [HO.out.2.1]; exact Nat.le_refl _)] at h
      exact h
end Go.Proofs.Ytfdcopegkhofnaa
namespace Go.Proofs.Ytfdcopegkhofnaa
open Go.RowKit Go.Shelf
set_option linter.unusedVariables false
set_option linter.unusedSimpArgs false

theorem walk_at : ∀ (f : Fo) (d : Nat) (x : Sp), x ∈ spF d f → ∃ k r u, kidF f k = some u ∧ atT u r = some (trOf x)
  | .nil, _, _, h => by simp [spF] at h
  | .node b o key l q, d, x, h => by
    simp only [spF, List.mem_cons, List.mem_append] at h
    rcases h with rfl | h | h
    · exact ⟨0, [], _, rfl, rfl⟩
    · obtain ⟨k, r, u, h1, h2⟩ := walk_at l (d + 1) x h
      exact ⟨0, k :: r, ⟨key.1, key.2.1, key.2.2, l⟩, rfl, by simp only [atT, h1]; exact h2⟩
    · obtain ⟨k, r, u, h1, h2⟩ := walk_at q d x h
      exact ⟨k + 1, r, u, by simpa [kidF, foDrop] using h1, h2⟩
theorem at_walk : ∀ (f : Fo) (d k : Nat) (r : List Nat) (u v : Tr), kidF f k = some u → atT u r = some v → ∃ x ∈ spF d f, trOf x = v
  | .nil, _, k, _, _, _, h, _ => by cases k <;> simp [kidF, foDrop, headT] at h
  | .node b o key l q, d, 0, r, u, v, h, hv => by
    have hu : u = ⟨key.1, key.2.1, key.2.2, l⟩ := by simp only [kidF, foDrop, headT] at h; cases h; rfl
    subst hu
    cases r with
    | nil => cases hv; exact ⟨(d, key, l), by simp [spF], rfl⟩
    | cons i r =>
      simp only [atT] at hv
      cases hk : kidF l i with
      | none => rw [hk] at hv; cases hv
      | some w =>
        rw [hk] at hv
        obtain ⟨x, h1, h2⟩ := at_walk l (d + 1) i r w v hk hv
        exact ⟨x, by simp [spF, h1], h2⟩
  | .node b o key l q, d, k + 1, r, u, v, h, hv => by
    obtain ⟨x, h1, h2⟩ := at_walk q d k r u v (by simpa [kidF, foDrop] using h) hv
    exact ⟨x, by simp [spF, h1], h2⟩
theorem walk_path {t : Tr} {x : Sp} (h : x ∈ spF 1 (rootF t)) : ∃ p, atT t p = some (trOf x) := by
  obtain ⟨k, r, u, h1, h2⟩ := walk_at _ _ _ h
  cases k with
  | zero => simp only [rootF, kidF, foDrop, headT] at h1; cases h1; exact ⟨r, h2⟩
  | succ k => rw [kidF_ge (by simp [rootF, foLen])] at h1; cases h1
theorem path_walk {t u : Tr} {p : List Nat} (h : atT t p = some u) : ∃ x ∈ spF 1 (rootF t), trOf x = u :=
  at_walk (rootF t) 1 0 p t u rfl h
theorem place_is {t u : Tr} {id pp pi : Int} {p : List Nat} {i : Nat} {b : Bool} {T : List Sp} (hd : DistT t) (hT : T = spF 1 (rootF t)) (hp : pathT id t = some (p ++ [i])) (hu : atT t p = some u)
    (hy : b = true → ∃ x ∈ T, ∃ (j : Nat) (v : Tr), pp = x.2.1.1 ∧ pi = (j : Int) ∧ kidF x.2.2 j = some v ∧ v.id = id) (hn : b = false → ∀ x ∈ T, ∀ (j : Nat) (v : Tr), kidF x.2.2 j = some v → v.id ≠ id) :
    b = true ∧ pp = u.id ∧ pi = (i : Int) := by
  subst hT
  obtain ⟨v, hv0, hvid⟩ := pathT_at id t _ hp
  obtain ⟨u', hu', hv⟩ := atT_last p i t v hv0
  rw [hu] at hu'; cases hu'
  cases b with
  | false =>
    obtain ⟨x, hx, e⟩ := path_walk hu
    exact absurd hvid (hn rfl x hx i v (by rw [show x.2.2 = u.kids by rw [← e]; rfl]; exact hv))
  | true =>
    obtain ⟨x, hx, j, v2, e1, e2, hk, hid⟩ := hy rfl
    obtain ⟨q, hq⟩ := walk_path hx
    have h2 := at_snoc (v := v2) hq hk
    have h3 := pathT_uniq hd h2
    rw [hid, hp] at h3
    have h4 := List.append_inj' (Option.some.inj h3) rfl
    have h5 : i = j := by have := h4.2; simpa using this
    rw [← h4.1, hu] at hq
    have h6 : u = trOf x := Option.some.inj hq
    refine ⟨rfl, ?_, ?_⟩
    · rw [e1, h6]; rfl
    · rw [e2, h5]
end Go.Proofs.Ytfdcopegkhofnaa
