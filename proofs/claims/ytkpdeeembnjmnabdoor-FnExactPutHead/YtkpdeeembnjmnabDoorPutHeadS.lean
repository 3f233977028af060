/- Contract of spec.PutHead. -/
import Derived.Test.YtkpdeeembnjmnabDoorHeadS
import Derived.Test.YtkpdeeembnjmnabDoorPutHeadI
namespace Go.Proofs.YtkpdeeembnjmnabDoor
open Go.ChangeShapes Go.WideShapes Go.ChangeAt Go.RowKit Go.Deep

set_option maxHeartbeats 1600000 in
set_option maxRecDepth 8000 in
theorem putHead_spec (k : Int) (p l : ByteArray) (m u g t : Int) (us gr b fl : ByteArray) (sz : Int) (w : World) (hp : p.size ≤ 4194304) (hl : l.size ≤ 4194304) (hus : us.size ≤ 4194304) (hgr : gr.size ≤ 4194304) (hbz : b.size ≤ 4194304) :
    Calls Tryd.prog 5 #[.agg #[.int .i64 k, .string p, .string l, .int .i64 m, .int .i64 u, .int .i64 g, .int .i64 t, .string us, .string gr, .string b], .string fl, .int .i64 sz] w fun e w' => e = .returned (.string (putHeadv ⟨k, p, l, m, u, g, t, us, gr, b⟩ fl sz)) ∧ Below w.heap.size w w' := by
  have H1 := Lib.hid (fun w => fits_spec k p l m u g t us gr b w hp hl hus hgr hbz)
  have H2 := Lib.hid (fun w => in_any sz 0 3000 w)
  have H3 := Lib.hid (fun w => split_spec p w hp)
  by_cases hy : fitsv ⟨k, p, l, m, u, g, t, us, gr, b⟩ = true ∧ fl.size = 1 ∧ (0 ≤ sz ∧ sz ≤ 3000)
  · have HE : Hid (putHeadv ⟨k, p, l, m, u, g, t, us, gr, b⟩ fl sz = headv ⟨k, p, l, m, u, g, t, us, gr, b⟩ (splitN p) (splitP p) fl sz magicU) := Lib.hid (by rw [putHeadv, if_pos hy])
    obtain ⟨hf, hfl, hs⟩ := hy
    obtain ⟨-, -, -, -, zl, zus, zgr, hso⟩ := fits_nums hf
    simp only at zl zus zgr hso
    obtain ⟨zn, zp⟩ := split_sizes hso
    have H4 := Lib.hid (fun w => l04Head_spec k p l m u g t us gr b (splitN p) (splitP p) fl sz magicU w (by omega) (by omega) (by omega) (by omega) (by omega) (by omega) (by decide))
    rw [hf] at H1
    rw [inB_t hs] at H2
    rw [← HE.out, show magicU = ⟨#[117, 115, 116, 97, 114, 0, 48, 48]⟩ from rfl] at H4
    generalize putHeadv ⟨k, p, l, m, u, g, t, us, gr, b⟩ fl sz = r at *
    generalize splitN p = sn at *
    generalize splitP p = sp at *
    generalize splitOk p = so at *
    have hfl' : (fl.size : Int) = 1 := by omega
    clear HE hf hfl zl zus zgr zn zp hs hso hp hl hus hgr hbz
    go_enter Tryd.func5, Tryd.ntmps5
    go_wp2_with fail
    refine (H1.out _).mono ?_
    rintro e w1 ⟨rfl, hb⟩
    obtain ⟨k1, bb1, z1⟩ := one_new (e1 := ⟨k, p, l, m, u, g, t, us, gr, b⟩) hb
    have E1 := Lib.hid k1
    have B1 := Lib.hid bb1
    clear hb k1 bb1 H1
    go_wp2_with fail
    refine (H2.out _).mono ?_
    rintro e w2 ⟨rfl, rfl⟩
    obtain ⟨_, c1, _⟩ := E1.out.zero
    go_wp2_with fail
    refine (H3.out _).mono ?_
    rintro e w2 ⟨rfl, hb⟩
    have E2 := Lib.hid (E1.out.below hb (by omega))
    have B2 := Lib.hid (btE B1.out hb)
    clear hb c1 E1 B1
    obtain ⟨c0, c1, c2, c3, c4, c5, c6, c7, c8, c9⟩ := E2.out.zero
    go_wp2_with fail
    refine (H4.out _).mono ?_
    rintro e w3 ⟨rfl, hb⟩
    go_wp2
    go_ret
    exact ⟨rfl, btE B2.out hb⟩
  · have HE := Lib.hid (putHead_no hy)
    generalize putHeadv ⟨k, p, l, m, u, g, t, us, gr, b⟩ fl sz = r at HE
    generalize fitsv ⟨k, p, l, m, u, g, t, us, gr, b⟩ = bf at H1 hy
    clear hp hl hus hgr hbz H3
    cases bf with
    | false =>
      clear hy
      go_enter Tryd.func5, Tryd.ntmps5
      go_wp2_with fail
      refine (H1.out _).mono ?_
      rintro e w1 ⟨rfl, hb⟩
      obtain ⟨-, bb1, -⟩ := one_new (e1 := ⟨k, p, l, m, u, g, t, us, gr, b⟩) hb
      have B1 := Lib.hid bb1
      clear hb bb1
      go_wp2
      go_ret
      exact ⟨ret_str HE.out.symm, B1.out⟩
    | true =>
      by_cases h1 : (fl.size : Int) = 1
      · have h2 : inB sz 0 3000 = false := inB_f (fun h => hy ⟨rfl, by omega, h⟩)
        rw [h2] at H2
        clear hy h2
        go_enter Tryd.func5, Tryd.ntmps5
        go_wp2_with fail
        refine (H1.out _).mono ?_
        rintro e w1 ⟨rfl, hb⟩
        obtain ⟨-, bb1, -⟩ := one_new (e1 := ⟨k, p, l, m, u, g, t, us, gr, b⟩) hb
        have B1 := Lib.hid bb1
        clear hb bb1
        go_wp2_with fail
        refine (H2.out _).mono ?_
        rintro e w2 ⟨rfl, rfl⟩
        go_wp2
        go_ret
        exact ⟨ret_str HE.out.symm, B1.out⟩
      · clear hy
        go_enter Tryd.func5, Tryd.ntmps5
        go_wp2_with fail
        refine (H1.out _).mono ?_
        rintro e w1 ⟨rfl, hb⟩
        obtain ⟨-, bb1, -⟩ := one_new (e1 := ⟨k, p, l, m, u, g, t, us, gr, b⟩) hb
        have B1 := Lib.hid bb1
        clear hb bb1
        go_wp2
        go_ret
        exact ⟨ret_str HE.out.symm, B1.out⟩
end Go.Proofs.YtkpdeeembnjmnabDoor
